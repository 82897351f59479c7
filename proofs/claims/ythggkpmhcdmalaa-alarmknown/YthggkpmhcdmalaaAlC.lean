/-
  Package alarm: Again, New, what is none; an alarm in memory.
-/
import Derived.Test.YthggkpmhcdmalaaAlB
namespace Go.Proofs.Ythggkpmhcdmalaa
open Go.RowKit
set_option maxRecDepth 8000
/-- An alarm's cells. -/
abbrev alC (s : Sp) (x : As) : Array Value := #[.int .i64 s.pr, .bool s.la, .int .i64 s.es, .int .i64 x.ph, .int .i64 x.pr, .int .i64 x.si, .int .i64 x.pa]
/-- An alarm at p: its spec, how it stands. -/
structure Al (w : World) (p : Nat) (s : Sp) (x : As) : Prop where
  at0 : w.heap[p]? = some (.cells (alC s x) 57 (0, 0))
  may : s.May
  st : s.Stands x
theorem Al.lt {w : World} {p : Nat} {s : Sp} {x : As} (h : Al w p s x) : p < w.heap.size := blk_lt h.at0
theorem Al.but {S : Nat → Prop} {w w' : World} {p : Nat} {s : Sp} {x : As} (h : Al w p s x) (b : But S w w') (hp : ¬ S p) : Al w' p s x :=
  { h with at0 := (b.block p (blk_lt h.at0) hp).trans h.at0 }
theorem Al.after {w w' : World} {p : Nat} {s : Sp} {x : As} (h : Al w p s x) (a : After w w') : Al w' p s x := h.but a (fun t => t)
/-- What is read and may be stored into. -/
structure AlCs (w : World) (p : Nat) (s : Sp) (x : As) : Prop where
  c0 : w.cell? ⟨p, 0, none⟩ = some (.int .i64 s.pr)
  c1 : w.cell? ⟨p, 1, none⟩ = some (.bool s.la)
  c2 : w.cell? ⟨p, 2, none⟩ = some (.int .i64 s.es)
  c3 : w.cell? ⟨p, 3, none⟩ = some (.int .i64 x.ph)
  c4 : w.cell? ⟨p, 4, none⟩ = some (.int .i64 x.pr)
  c5 : w.cell? ⟨p, 5, none⟩ = some (.int .i64 x.si)
  c6 : w.cell? ⟨p, 6, none⟩ = some (.int .i64 x.pa)
  f3 : w.frozen? ⟨p, 3, none⟩ = false
  f4 : w.frozen? ⟨p, 4, none⟩ = false
  f5 : w.frozen? ⟨p, 5, none⟩ = false
  f6 : w.frozen? ⟨p, 6, none⟩ = false
theorem cells_of {w : World} {p : Nat} {T : TypeId} {s : Sp} {x : As} (h : w.heap[p]? = some (.cells (alC s x) T (0, 0))) : AlCs w p s x :=
  ⟨blk_cell h rfl, blk_cell h rfl, blk_cell h rfl, blk_cell h rfl, blk_cell h rfl, blk_cell h rfl, blk_cell h rfl, blk_soft h 3, blk_soft h 4, blk_soft h 5, blk_soft h 6⟩
theorem again_ok (w : World) (s : Sp) (x : As) (hs : s.May) (hx : s.Stands x) : Calls Try.prog 9 #[s.v, x.v] w fun e w' => ∃ p, e = .returned (.tuple #[Ptr p, .int .i64 0]) ∧ Al w' p s x ∧ w.heap.size ≤ p ∧ After w w' := by
  have HM := hideIt (fun V => mayBe_any V s)
  have HT := hideIt (fun V => mayStand_any V s x)
  have HB := hideIt (fun V h => box_two w s x V h)
  have HA := hideIt (boxed_after w s x)
  rw [decide_eq_true hs] at HM
  rw [decide_eq_true hx] at HT
  have HX := hideIt (And.intro hs hx)
  clear hs hx
  unfold boxed Sp.cs As.cs at HA HB
  go_enter Try.func9, Try.ntmps9
  go_wp2_with fail
  refine (HM.out _).mono ?_
  rintro e w1 ⟨rfl, a1⟩
  obtain ⟨c0, c1, c2, c3, c4, c5, c6⟩ := HB.out _ a1
  have A1 := hideIt a1
  clear a1 HM
  go_wp2_with fail
  refine (HT.out _).mono ?_
  rintro e w2 ⟨rfl, a2⟩
  clear c0 c1 c2 c3 c4 c5 c6
  obtain ⟨c0, c1, c2, c3, c4, c5, c6⟩ := HB.out _ (A1.out.trans a2)
  have A2 := hideIt (A1.out.trans a2)
  clear a2 A1 HT HB
  go_wp2
  go_ret2
  have a3 := HA.out.trans A2.out
  exact ⟨w2.heap.size, rfl, ⟨heap_alloc_new w2 _, HX.out.1, HX.out.2⟩, a3.size, a3.alloc _⟩
theorem again_no (w : World) (s : Sp) (x : As) (h : ¬ (s.May ∧ s.Stands x)) : Calls Try.prog 9 #[s.v, x.v] w fun e w' => e = .returned (.tuple #[.pointer none, .int .i64 2]) ∧ After w w' := by
  have HM := hideIt (fun V => mayBe_any V s)
  have HT := hideIt (fun V => mayStand_any V s x)
  have HB := hideIt (fun V h => box_two w s x V h)
  have HA := hideIt (boxed_after w s x)
  unfold boxed Sp.cs As.cs at HA HB
  by_cases hs : s.May
  · have hx : ¬ s.Stands x := fun h' => h ⟨hs, h'⟩
    rw [decide_eq_true hs] at HM
    rw [decide_eq_false hx] at HT
    clear hs hx h
    go_enter Try.func9, Try.ntmps9
    go_wp2_with fail
    refine (HM.out _).mono ?_
    rintro e w1 ⟨rfl, a1⟩
    obtain ⟨c0, c1, c2, c3, c4, c5, c6⟩ := HB.out _ a1
    have A1 := hideIt a1
    clear a1 HM
    go_wp2_with fail
    refine (HT.out _).mono ?_
    rintro e w2 ⟨rfl, a2⟩
    clear c0 c1 c2 c3 c4 c5 c6
    have A2 := hideIt (A1.out.trans a2)
    clear a2 A1 HT HB
    go_wp2
    go_ret2
    exact ⟨rfl, HA.out.trans A2.out⟩
  · rw [decide_eq_false hs] at HM
    clear hs h
    go_enter Try.func9, Try.ntmps9
    go_wp2_with fail
    refine (HM.out _).mono ?_
    rintro e w1 ⟨rfl, a1⟩
    have A1 := hideIt a1
    clear a1 HM HT HB
    go_wp2
    go_ret2
    exact ⟨rfl, HA.out.trans A1.out⟩
theorem new_ok (w : World) (s : Sp) (hs : s.May) : Calls Try.prog 11 #[s.v] w fun e w' => ∃ p, e = .returned (.tuple #[Ptr p, .int .i64 0]) ∧ Al w' p s As.zero ∧ w.heap.size ≤ p ∧ After w w' := by
  have HM := hideIt (fun V => again_ok V s As.zero hs (Sp.Stands.zero s))
  have HA := hideIt (After.rfl.alloc (a := w) (b := w) (.cells s.cs 23))
  unfold Sp.cs at HA
  clear hs
  go_enter Try.func11, Try.ntmps11
  go_wp2_with fail
  refine (HM.out _).mono ?_
  rintro e w1 ⟨p, rfl, x, hp, a1⟩
  have H := hideIt (And.intro x (And.intro hp a1))
  clear x hp a1 HM
  go_wp2
  go_ret2
  exact ⟨p, rfl, H.out.1, Nat.le_trans HA.out.size H.out.2.1, HA.out.trans H.out.2.2⟩
theorem new_no (w : World) (s : Sp) (hs : ¬ s.May) : Calls Try.prog 11 #[s.v] w fun e w' => e = .returned (.tuple #[.pointer none, .int .i64 2]) ∧ After w w' := by
  have HM := hideIt (fun V => again_no V s As.zero (fun h => hs h.1))
  have HA := hideIt (After.rfl.alloc (a := w) (b := w) (.cells s.cs 23))
  unfold Sp.cs at HA
  clear hs
  go_enter Try.func11, Try.ntmps11
  go_wp2_with fail
  refine (HM.out _).mono ?_
  rintro e w1 ⟨rfl, a1⟩
  have H := hideIt a1
  clear a1 HM
  go_wp2
  go_ret2
  exact ⟨rfl, HA.out.trans H.out⟩
theorem isNone_no {w : World} {p : Nat} {s : Sp} {x : As} (h : Al w p s x) : Calls Try.prog 32 #[Ptr p] w fun e w' => e = .returned (.bool false) ∧ After w w' := by
  have HM := hideIt (fun V => mayBe_any V s)
  rw [decide_eq_true h.may] at HM
  obtain ⟨c0, c1, c2, -, -, -, -, -, -, -, -⟩ := cells_of h.at0
  clear h
  go_enter Try.func32, Try.ntmps32
  go_wp2_with fail
  refine (HM.out _).mono ?_
  rintro e w1 ⟨rfl, a1⟩
  go_wp2
  go_ret
  exact ⟨rfl, a1⟩
/-- What is none. -/
def NoneA (w : World) (v : Value) : Prop := ∀ V, After w V → Calls Try.prog 32 #[v] V fun e w' => e = .returned (.bool true) ∧ After V w'
theorem none_nil (w : World) : NoneA w (.pointer none) := by
  intro V _
  go_enter Try.func32, Try.ntmps32
  go_wp2
  go_ret
  exact ⟨rfl, After.rfl⟩
theorem none_zero {w : World} {p : Nat} {s : Sp} {x : As} (h : w.heap[p]? = some (.cells (alC s x) 57 (0, 0))) (hs : ¬ s.May) : NoneA w (Ptr p) := by
  intro V a
  have h' := (a.block p (blk_lt h) (fun t => t)).trans h
  have HM := hideIt (fun V => mayBe_any V s)
  rw [decide_eq_false hs] at HM
  obtain ⟨c0, c1, c2, -, -, -, -, -, -, -, -⟩ := cells_of h'
  clear h h' a hs
  go_enter Try.func32, Try.ntmps32
  go_wp2_with fail
  refine (HM.out _).mono ?_
  rintro e w1 ⟨rfl, a1⟩
  go_wp2
  go_ret
  exact ⟨rfl, a1⟩
end Go.Proofs.Ythggkpmhcdmalaa
