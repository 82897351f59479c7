/-
  One object, by a coder: its handle is held against those ahead of it.
-/
import Derived.Test.YtigiakhdaaoljaaListB
import Derived.Laws.AppendOwnNone
import Derived.BigQuiet
import Derived.RegionTactic
namespace Go.Proofs.Ytigiakhdaaoljaa
open Go.RowKit
set_option maxRecDepth 8000
/-- A block that is not a coder's. -/
structure Keeps (w : World) (S : Nat → Prop) (k : Nat) (o : Obj) : Prop where
  at0 : w.heap[k]? = some o
  out : ¬ S k
theorem Keeps.lt {w : World} {S : Nat → Prop} {k : Nat} {o : Obj} (h : Keeps w S k o) : k < w.heap.size := (Array.getElem?_eq_some_iff.1 h.at0).1
theorem Keeps.step {w w' : World} {S S' : Nat → Prop} {k : Nat} {o : Obj} (h : Keeps w S k o) (s : Stp S w S' w') : Keeps w' S' k o :=
  ⟨(s.but.block k h.lt h.out).trans h.at0, fun hk => (s.new k hk).elim h.out (fun h' => absurd h.lt (by omega))⟩
theorem Keeps.after {w w' : World} {S : Nat → Prop} {k : Nat} {o : Obj} (h : Keeps w S k o) (s : After w w') : Keeps w' S k o := h.step (Stp.rfl.after s)
theorem Keeps.far {w : World} {S : Nat → Prop} {k g : Nat} {o : Obj} (h : Keeps w S k o) (hn : k ≠ g) (i : Nat) (x : Value) : Keeps (w.setCell ⟨g, i, none⟩ x) S k o := ⟨set_far h.at0 hn, h.out⟩
theorem Keeps.set0 {w : World} {S : Nat → Prop} {k : Nat} {T : TypeId} {x y z : Value} (h : Keeps w S k (.cells #[x, y, z] T (0, 0))) (v : Value) : Keeps (w.setCell ⟨k, 0, none⟩ v) S k (.cells #[v, y, z] T (0, 0)) := ⟨three_set0 h.at0 v, h.out⟩
theorem Keeps.set1 {w : World} {S : Nat → Prop} {k : Nat} {T : TypeId} {x y z : Value} (h : Keeps w S k (.cells #[x, y, z] T (0, 0))) (v : Value) : Keeps (w.setCell ⟨k, 1, none⟩ v) S k (.cells #[x, v, z] T (0, 0)) := ⟨three_set1 h.at0 v, h.out⟩
/-- Whole numbers. -/
def i64s (zs : List Int) : List Value := zs.map (Value.int .i64)
theorem i64s_length (zs : List Int) : (i64s zs).length = zs.length := by simp [i64s]
theorem i64s_one (zs : List Int) : ∀ u ∈ i64s zs, u.oneCell' = true := by
  intro u hu
  obtain ⟨z, _, rfl⟩ := List.mem_map.1 hu
  rfl
/-- Whole numbers lie where a slice of n places leads. -/
def RowN (w : World) (a : Option Addr) (n : Nat) (xs : List Int) : Prop :=
  xs.length = n ∧ ∀ i, i < n → ∃ b off, a = some ⟨b, off, none⟩ ∧ b < w.heap.size ∧ w.cell? ⟨b, off + i, none⟩ = some (.int .i64 (xs.getD i 0))
theorem own_rowN {w : World} {B : Nat} {a : Option Addr} {n c : Nat} {zs : List Int} (h : w.ownsRow B 3 1 (.slice a n c) n (i64s zs)) : RowN w a n zs := by
  have hl : zs.length = n := by have := h.1; simp [i64s] at this; exact this
  rcases h.2 with ⟨e, rfl⟩ | ⟨g, cap, cur, e, _, _, hnc, _⟩
  · exact ⟨hl, fun i hi => absurd hi (by omega)⟩
  · cases e
    refine ⟨hl, fun i hi => ⟨g, 0, rfl, (h.lt g rfl).2, ?_⟩⟩
    have := h.cellAt i (by omega)
    rw [Nat.zero_add, this]
    have hi' : i < zs.length := by omega
    simp [i64s, hi']
theorem mem_at {zs : List Int} {x : Int} {j : Nat} (hj : j < zs.length) (h : x = zs.getD j 0) : x ∈ zs := by
  rw [h, List.getD_eq_getElem?_getD, List.getElem?_eq_getElem hj]; exact List.getElem_mem _
theorem index_any (w : World) (a : Option Addr) (n c : Nat) (x : Int) (hs : List Int) (hr : RowN w a n hs) (hn : n ≤ 1000000) :
    Calls Try.prog 89 #[.slice a n c, .int .i64 x] w fun e w' => (∃ r : Int, e = .returned (.int .i64 r) ∧ (0 ≤ r ↔ x ∈ hs)) ∧ w' = w := by
  have HR := hideIt hr
  have HN := hideIt hn
  clear hr hn
  go_enter Try.func89, Try.ntmps89
  go_wp2_with fail
  go_loop [8] (fun i => ∃ j : Nat, j ≤ n ∧ i = .int .i64 j ∧ x ∉ hs.take j) (fun i => n - (intOf i).toNat)
  case atStart => exact ⟨0, Nat.zero_le _, rfl, by simp⟩
  case round =>
    obtain ⟨j, hj, rfl, hnot⟩ := hrel
    have hl := HR.out.1
    by_cases hlt : j < n
    · obtain ⟨b, off, rfl, hb, hc⟩ := HR.out.2 j hlt
      obtain ⟨y, hy⟩ : ∃ y, hs.getD j 0 = y := ⟨_, rfl⟩
      rw [hy] at hc
      have hji : (j : Int) < (n : Int) := by omega
      by_cases hxy : x = y
      · have hk : (x == y) = true := by simpa using hxy
        have HM := hideIt (mem_at (x := x) (zs := hs) (j := j) (by omega) (by rw [hy]; exact hxy))
        clear hxy hy hnot
        go_wp2_with fail
        go_ret
        exact ⟨⟨j, rfl, fun _ => HM.out, fun _ => by omega⟩, rfl⟩
      · have hk : (x == y) = false := by simpa using hxy
        have HM := hideIt (show x ∉ hs.take (j + 1) by rw [take_more (by omega), hy]; simp only [List.mem_append, List.mem_singleton]; exact fun h => h.elim hnot hxy)
        have hj1 : (j : Int) ≤ 1000000 := by have := HN.out; omega
        clear hxy hy hnot
        go_wp2_with fail
        go_round
        case rel => exact ⟨j + 1, by omega, by go_num, HM.out⟩
        case measure => simp [intOf]; omega
    · obtain rfl : j = n := by omega
      have HM := hideIt (show x ∉ hs by rw [List.take_of_length_le (by omega)] at hnot; exact hnot)
      clear hnot
      go_wp2_with fail
      go_ret
      exact ⟨⟨-1, rfl, fun h => absurd h (by omega), fun h => absurd h HM.out⟩, rfl⟩
theorem contains_any (w : World) (a : Option Addr) (n c : Nat) (x : Int) (hs : List Int) (hr : RowN w a n hs) (hn : n ≤ 1000000) :
    Calls Try.prog 82 #[.slice a n c, .int .i64 x] w fun e w' => e = .returned (.bool (decide (x ∈ hs))) ∧ w' = w := by
  have HI := hideIt (index_any w a n c x hs hr hn)
  clear hr hn
  go_enter Try.func82, Try.ntmps82
  go_wp2_with (go_at_call 89; refine HI.out.mono ?_; rintro e w1 ⟨⟨r, rfl, hr⟩, rfl⟩; have HR := hideIt hr; clear hr)
  go_ret
  refine ⟨ret_bool ?_, rfl⟩
  by_cases h : x ∈ hs
  · rw [decide_eq_true h]; simpa using HR.out.2 h
  · rw [decide_eq_false h]; simpa using fun h' => h (HR.out.1 h')
end Go.Proofs.Ytigiakhdaaoljaa
