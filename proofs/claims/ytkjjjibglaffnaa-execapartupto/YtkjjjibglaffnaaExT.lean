/-
  The statements' helpers: over, heards, usual; a literal task.
-/
import Derived.Test.YtkjjjibglaffnaaExR
import Derived.Laws.StructEq
namespace Go.Proofs.Ytkjjjibglaffnaa
open Go.RowKit
set_option maxRecDepth 8000
theorem over_yes {w : World} {v : Value} (h : NoneC w v) : Calls Try.prog 18 #[v] w fun e w' => e = .returned (.bool true) ∧ w' = w := by
  have H1 := hideIt (fail_none h)
  have H2 := hideIt (get_none h 0)
  have H3 := hideIt (use_none h 0)
  have H4 := hideIt (put_none h 0 77)
  have hv : v = .pointer none ∨ ∃ c, v = Ptr c := by
    rcases h with h | ⟨c, h, _⟩
    · exact .inl h
    · exact .inr ⟨c, h⟩
  clear h
  rcases hv with rfl | ⟨c, rfl⟩
  · clear H1 H2 H3 H4
    go_enter Try.func18, Try.ntmps18
    go_wp2
    go_ret
    exact ⟨rfl, rfl⟩
  · go_enter Try.func18, Try.ntmps18
    go_wp2_with fail
    refine H1.out.mono ?_
    rintro e w0 ⟨rfl, hw⟩
    obtain rfl := hw.symm
    go_wp2_with fail
    refine H2.out.mono ?_
    rintro e w0 ⟨rfl, hw⟩
    obtain rfl := hw.symm
    go_wp2_with fail
    refine H3.out.mono ?_
    rintro e w0 ⟨rfl, hw⟩
    obtain rfl := hw.symm
    go_wp2_with fail
    refine H4.out.mono ?_
    rintro e w0 ⟨rfl, hw⟩
    obtain rfl := hw.symm
    go_wp2_with fail
    go_ret
    exact ⟨rfl, rfl⟩
theorem he_at {w : World} {a : Option Addr} {n : Nat} {xs : List He} (h : GRow heE w a n xs) {i : Nat} (hi : i < n) : ∃ b off x, a = some ⟨b, off, none⟩ ∧ b < w.heap.size ∧ xs[i]? = some x ∧ w.cell? ⟨b, off + i * 2, none⟩ = some (.int .i64 x.v) ∧ w.cell? ⟨b, off + i * 2 + 1, none⟩ = some (.bool x.is) := by
  obtain ⟨b, off, x, e, hb, hx, h1⟩ := h.2 i hi
  exact ⟨b, off, x, e, hb, hx, h1 0 _ rfl, h1 1 _ rfl⟩
set_option maxHeartbeats 1000000 in
theorem heards_yes {w : World} {a a' : Option Addr} {c c' : Nat} {xs : List He} (h1 : GRow heE w a xs.length xs) (h2 : GRow heE w a' xs.length xs) (hn : xs.length ≤ 17592186044416) : Calls Try.prog 17 #[.slice a xs.length c, .slice a' xs.length c'] w fun e w' => e = .returned (.bool true) ∧ After w w' := by
  have HH := hideIt (And.intro h1 h2)
  have i1 : (xs.length : Int) ≤ 17592186044416 := by omega
  have hne : ((xs.length : Int) != (xs.length : Int)) = false := by simp
  clear h1 h2 hn
  go_enter Try.func17, Try.ntmps17
  go_wp2_with fail
  go_loopw [5] (fun iv wr => ∃ j : Nat, j ≤ xs.length ∧ iv = .int .i64 j ∧ After w wr) (fun iv _ => xs.length - (intOf iv).toNat)
  case atStart => exact ⟨0, Nat.zero_le _, rfl, After.rfl⟩
  case round =>
    obtain ⟨j, hj, rfl, af⟩ := hrel
    by_cases hjn : j < xs.length
    · have i2 : (j : Int) < (xs.length : Int) := by omega
      obtain ⟨b, off, x, rfl, hb, hx, c0, c1⟩ := he_at (HH.out.1.after af) hjn
      obtain ⟨b', off', x', rfl, hb', hx', d0, d1⟩ := he_at (HH.out.2.after af) hjn
      rw [hx] at hx'
      cases hx'
      have q1 : (x.v != x.v) = false := by simp
      have q2 : (x.is != x.is) = false := by simp
      have q3 : (x.v == x.v) = true := by simp
      have q4 : (x.is == x.is) = true := by simp
      have AF := hideIt af
      clear af hx
      go_wp2_with fail
      go_region
      go_wp2_with fail
      go_roundw
      case rel => exact ⟨j + 1, by omega, by go_num, But.drew AF.out⟩
      case measure => simp [intOf]; omega
    · have i2 : ¬ (j : Int) < (xs.length : Int) := by omega
      have AF := hideIt af
      clear af
      go_wp2_with fail
      go_ret
      exact ⟨rfl, AF.out⟩
/-- A literal task more. -/
theorem Sy.lit {w : World} {o : Nat → Nat} {lv : Value} {L : List Lk} {TL : List (Option Tk)} {HS : Nat → List He} {CV : Nat → Value} (y : Sy w o lv L TL HS CV) {cs : Array Value} {D : List De} (hcs : cs.toList = deE.flat D) {W : World} (hW : W = (w.alloc (.cells cs 67)).alloc (.cells #[.slice (some ⟨w.heap.size, 0, none⟩) D.length D.length, .slice none 0 0, .pointer none] 63)) :
    Sy W (upd o (w.heap.size + 1) (10 + 2 * TL.length)) lv L (TL ++ [some ⟨w.heap.size + 1, some ⟨w.heap.size, 0, none⟩, D.length, D⟩]) (setf HS TL.length []) (setf CV TL.length (.pointer none)) ∧ After w W ∧ W.heap.size = w.heap.size + 2 := by
  have hs : (w.alloc (.cells cs 67)).heap.size = w.heap.size + 1 := by simp
  have a1 := (After.rfl (w := w)).alloc (.cells cs 67)
  have aW : After w W := by rw [hW]; exact a1.alloc _
  have h0 : W.heap[w.heap.size + 1]? = some (.cells #[.slice (some ⟨w.heap.size, 0, none⟩) D.length D.length, .slice none 0 0, .pointer none] 63 (0, 0)) := by
    rw [hW, ← hs]; exact heap_alloc_new _ _
  have hd : GRow deE W (some ⟨w.heap.size, 0, none⟩) D.length D := by
    rw [hW]
    exact (lit_row (E := deE) (heap_alloc_new w _) hcs rfl).after (After.rfl.alloc _)
  refine ⟨y.add aW (k := ⟨w.heap.size + 1, some ⟨w.heap.size, 0, none⟩, D.length, D⟩) h0 (by show w.heap.size ≤ w.heap.size + 1; omega) hd (fun z hz _ => ?_), aW, by rw [hW]; simp⟩
  cases hz
  exact ⟨y.free (Nat.le_refl _), by show w.heap.size ≠ w.heap.size + 1; omega⟩
/-- A literal task more, wherever it stands. -/
theorem Sy.litAt {w : World} {o : Nat → Nat} {lv : Value} {L : List Lk} {TL TL' : List (Option Tk)} {HS : Nat → List He} {CV : Nat → Value} (y : Sy w o lv L TL HS CV) {cs : Array Value} {D : List De} {i : Nat} (hi : TL'[i]? = some (some ⟨w.heap.size + 1, some ⟨w.heap.size, 0, none⟩, D.length, D⟩)) (hj : ∀ j k', j ≠ i → TL'[j]? = some (some k') → TL[j]? = some (some k')) (hcs : cs.toList = deE.flat D) {W : World} (hW : W = (w.alloc (.cells cs 67)).alloc (.cells #[.slice (some ⟨w.heap.size, 0, none⟩) D.length D.length, .slice none 0 0, .pointer none] 63)) :
    Sy W (upd o (w.heap.size + 1) (10 + 2 * i)) lv L TL' (setf HS i []) (setf CV i (.pointer none)) ∧ After w W ∧ W.heap.size = w.heap.size + 1 + 1 := by
  have hs : (w.alloc (.cells cs 67)).heap.size = w.heap.size + 1 := by simp
  have a1 := (After.rfl (w := w)).alloc (.cells cs 67)
  have aW : After w W := by rw [hW]; exact a1.alloc _
  have h0 : W.heap[w.heap.size + 1]? = some (.cells #[.slice (some ⟨w.heap.size, 0, none⟩) D.length D.length, .slice none 0 0, .pointer none] 63 (0, 0)) := by
    rw [hW, ← hs]; exact heap_alloc_new _ _
  have hd : GRow deE W (some ⟨w.heap.size, 0, none⟩) D.length D := by
    rw [hW]
    exact (lit_row (E := deE) (heap_alloc_new w _) hcs rfl).after (After.rfl.alloc _)
  refine ⟨y.more aW (k := ⟨w.heap.size + 1, some ⟨w.heap.size, 0, none⟩, D.length, D⟩) hi hj h0 (by show w.heap.size ≤ w.heap.size + 1; omega) hd (fun z hz _ => ?_), aW, by rw [hW]; simp⟩
  cases hz
  exact ⟨y.free (Nat.le_refl _), by show w.heap.size ≠ w.heap.size + 1; omega⟩
/-- Blocks that are made one behind the other. -/
def allocs (w : World) : List (Array Value × TypeId) → World
  | [] => w
  | q :: r => allocs (w.alloc (.cells q.1 q.2)) r
theorem allocs_after : ∀ (os : List (Array Value × TypeId)) (w : World), After w (allocs w os) ∧ (allocs w os).heap.size = w.heap.size + os.length
  | [], w => ⟨After.rfl, rfl⟩
  | q :: r, w => by
    obtain ⟨h1, h2⟩ := allocs_after r (w.alloc (.cells q.1 q.2))
    exact ⟨(After.rfl.alloc _).trans h1, by show (allocs (w.alloc (.cells q.1 q.2)) r).heap.size = _; rw [h2]; simp; omega⟩
theorem allocs_at : ∀ (os : List (Array Value × TypeId)) (w : World) (i : Nat) (cs : Array Value) (T : TypeId), os[i]? = some (cs, T) → (allocs w os).heap[w.heap.size + i]? = some (.cells cs T (0, 0))
  | [], _, _, _, _, h => by simp at h
  | q :: r, w, 0, cs, T, h => by
    simp at h
    subst h
    exact ((allocs_after r _).1.block _ (by simp) (fun t => t)).trans (heap_alloc_new w _)
  | q :: r, w, i + 1, cs, T, h => by
    have := allocs_at r (w.alloc (.cells q.1 q.2)) i cs T (by simpa using h)
    rw [World.size_alloc] at this
    rw [show w.heap.size + (i + 1) = w.heap.size + 1 + i by omega]
    exact this
/-- What usual answers. -/
def Usual (w : World) (e : Ending) (w' : World) : Prop :=
  ∃ g1 g2 g3 g4 g5 : Nat, e = .returned (.agg #[.slice (some ⟨g3, 0, none⟩) 2 2, .slice (some ⟨g4, 0, none⟩) 2 2, .slice (some ⟨g5, 0, none⟩) 1 1]) ∧ GRow inE w' (some ⟨g1, 0, none⟩) 2 [0, 1] ∧ GRow inE w' (some ⟨g2, 0, none⟩) 1 [1] ∧ GRow fwE w' (some ⟨g3, 0, none⟩) 2 [⟨some ⟨g1, 0, none⟩, 2, [0, 1]⟩, ⟨some ⟨g2, 0, none⟩, 1, [1]⟩] ∧ GRow inE w' (some ⟨g4, 0, none⟩) 2 [5, 3] ∧ GRow prE w' (some ⟨g5, 0, none⟩) 1 [(0, 1)] ∧ After w w'
def usW (g : Nat) : List (Array Value × TypeId) := [(#[.slice (some ⟨g + 3, 0, none⟩) 2 2, .slice (some ⟨g + 4, 0, none⟩) 2 2, .slice (some ⟨g + 5, 0, none⟩) 1 1], 26), (#[.int .i64 0, .int .i64 1], 3), (#[.int .i64 1], 3), (#[.slice (some ⟨g + 1, 0, none⟩) 2 2, .slice (some ⟨g + 2, 0, none⟩) 1 1], 23), (#[.int .i64 5, .int .i64 3], 3), (#[.int .i64 0, .int .i64 1], 65)]
set_option maxHeartbeats 1000000 in
theorem usual_any (w : World) : Calls Try.prog 19 #[] w (Usual w) := by
  obtain ⟨W, hW⟩ : ∃ W, W = allocs w (usW w.heap.size) := ⟨_, rfl⟩
  have at_ := fun i cs T h => allocs_at (usW w.heap.size) w i cs T h
  have af := (allocs_after (usW w.heap.size) w).1
  rw [← hW] at at_ af
  have h0 := at_ 0 _ _ rfl
  have HA := hideIt (show Usual w (.returned (.agg #[.slice (some ⟨w.heap.size + 3, 0, none⟩) 2 2, .slice (some ⟨w.heap.size + 4, 0, none⟩) 2 2, .slice (some ⟨w.heap.size + 5, 0, none⟩) 1 1])) W from
    ⟨w.heap.size + 1, w.heap.size + 2, w.heap.size + 3, w.heap.size + 4, w.heap.size + 5, rfl, lit_row (at_ 1 _ _ rfl) rfl rfl, lit_row (at_ 2 _ _ rfl) rfl rfl, lit_row (at_ 3 _ _ rfl) rfl rfl, lit_row (at_ 4 _ _ rfl) rfl rfl, lit_row (at_ 5 _ _ rfl) rfl rfl, af⟩)
  have c0 := blk_cell h0 (i := 0) rfl
  have c1 := blk_cell h0 (i := 1) rfl
  have c2 := blk_cell h0 (i := 2) rfl
  rw [Nat.add_zero] at c0 c1 c2
  have HW := hideIt hW
  clear at_ af h0 hW
  go_enter Try.func19, Try.ntmps19
  go_wp2_with fail
  refine Eq.mp (congrArg (bodyPost _ _ _ _ _) (show W = _ from HW.out)) ?_
  exact bodyPost_ret (v := .agg #[.slice (some ⟨w.heap.size + 3, 0, none⟩) 2 2, .slice (some ⟨w.heap.size + 4, 0, none⟩) 2 2, .slice (some ⟨w.heap.size + 5, 0, none⟩) 1 1]) (by simp [results, Try.results19, go_sem, c0, c1, c2]) rfl HA.out
end Go.Proofs.Ytkjjjibglaffnaa
