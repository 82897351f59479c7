/-
  What FilterKnown runs: which filters may be, beats that are held and gone, a task whose steps are refused.
-/
import Derived.Test.YtgapnimicaopcaaFiK
import Derived.Test.YtgapnimicaopcaaB03
namespace Go.Proofs.Ytgapnimicaopcaa
open Go.RowKit
set_option maxRecDepth 8000
def wk4 (g0 g1 g2 : Nat) : List Stp := [⟨0, some ⟨g0, 0, none⟩, 1, 1, [⟨0, 1, 0⟩]⟩, ⟨10, some ⟨g1, 0, none⟩, 1, 1, [⟨0, 1, 0⟩]⟩, ⟨12, none, 0, 0, []⟩, ⟨15, none, 0, 0, []⟩, ⟨20, some ⟨g2, 0, none⟩, 1, 1, [⟨0, 1, 0⟩]⟩]
theorem outs4 (g0 g1 g2 : Nat) : Ts.new.outs ⟨4, 2, 4⟩ (wk4 g0 g1 g2) = [⟨0, 0⟩, ⟨0, 0⟩, ⟨0, 0⟩, ⟨3, 0⟩, ⟨0, 0⟩] := by
  have r0 : Ts.read ⟨4, 2, 4⟩ 0 Ts.new [⟨0, 1, 0⟩] = ⟨0, 0⟩ := by kernel_rfl
  have t0 : Ts.step ⟨4, 2, 4⟩ 0 Ts.new [⟨0, 1, 0⟩] = ⟨⟨[0], none⟩, ⟨true, false, 0⟩, 0, false, 1⟩ := by kernel_rfl
  have r1 : Ts.read ⟨4, 2, 4⟩ 10 ⟨⟨[0], none⟩, ⟨true, false, 0⟩, 0, false, 1⟩ [⟨0, 1, 0⟩] = ⟨0, 0⟩ := by kernel_rfl
  have t1 : Ts.step ⟨4, 2, 4⟩ 10 ⟨⟨[0], none⟩, ⟨true, false, 0⟩, 0, false, 1⟩ [⟨0, 1, 0⟩] = ⟨⟨[10], none⟩, ⟨true, false, 10⟩, 0, false, 11⟩ := by kernel_rfl
  have r2 : Ts.read ⟨4, 2, 4⟩ 12 ⟨⟨[10], none⟩, ⟨true, false, 10⟩, 0, false, 11⟩ [] = ⟨0, 0⟩ := by kernel_rfl
  have t2 : Ts.step ⟨4, 2, 4⟩ 12 ⟨⟨[10], none⟩, ⟨true, false, 10⟩, 0, false, 11⟩ [] = ⟨⟨[10], none⟩, ⟨true, false, 10⟩, 0, false, 13⟩ := by kernel_rfl
  have r3 : Ts.read ⟨4, 2, 4⟩ 15 ⟨⟨[10], none⟩, ⟨true, false, 10⟩, 0, false, 13⟩ [] = ⟨3, 0⟩ := by kernel_rfl
  have t3 : Ts.step ⟨4, 2, 4⟩ 15 ⟨⟨[10], none⟩, ⟨true, false, 10⟩, 0, false, 13⟩ [] = ⟨⟨[], none⟩, ⟨true, false, 10⟩, 0, false, 16⟩ := by kernel_rfl
  have r4 : Ts.read ⟨4, 2, 4⟩ 20 ⟨⟨[], none⟩, ⟨true, false, 10⟩, 0, false, 16⟩ [⟨0, 1, 0⟩] = ⟨0, 0⟩ := by kernel_rfl
  have t4 : Ts.step ⟨4, 2, 4⟩ 20 ⟨⟨[], none⟩, ⟨true, false, 10⟩, 0, false, 16⟩ [⟨0, 1, 0⟩] = ⟨⟨[20], none⟩, ⟨true, false, 20⟩, 0, false, 21⟩ := by kernel_rfl
  unfold wk4
  exact outs_cons r0 t0 (outs_cons r1 t1 (outs_cons r2 t2 (outs_cons r3 t3 (outs_cons r4 t4 rfl))))
theorem outs5 (g0 g1 g2 : Nat) : Ts.new.outs ⟨4, 2, 10⟩ (wk4 g0 g1 g2) = [⟨0, 0⟩, ⟨1, 60000⟩, ⟨2, 60000⟩, ⟨2, 60000⟩, ⟨1, 60000⟩] := by
  have r0 : Ts.read ⟨4, 2, 10⟩ 0 Ts.new [⟨0, 1, 0⟩] = ⟨0, 0⟩ := by kernel_rfl
  have t0 : Ts.step ⟨4, 2, 10⟩ 0 Ts.new [⟨0, 1, 0⟩] = ⟨⟨[0], none⟩, ⟨true, false, 0⟩, 0, false, 1⟩ := by kernel_rfl
  have r1 : Ts.read ⟨4, 2, 10⟩ 10 ⟨⟨[0], none⟩, ⟨true, false, 0⟩, 0, false, 1⟩ [⟨0, 1, 0⟩] = ⟨1, 60000⟩ := by kernel_rfl
  have t1 : Ts.step ⟨4, 2, 10⟩ 10 ⟨⟨[0], none⟩, ⟨true, false, 0⟩, 0, false, 1⟩ [⟨0, 1, 0⟩] = ⟨⟨[0, 10], none⟩, ⟨true, false, 10⟩, 60000, true, 11⟩ := by kernel_rfl
  have r2 : Ts.read ⟨4, 2, 10⟩ 12 ⟨⟨[0, 10], none⟩, ⟨true, false, 10⟩, 60000, true, 11⟩ [] = ⟨2, 60000⟩ := by kernel_rfl
  have t2 : Ts.step ⟨4, 2, 10⟩ 12 ⟨⟨[0, 10], none⟩, ⟨true, false, 10⟩, 60000, true, 11⟩ [] = ⟨⟨[0, 10], none⟩, ⟨true, false, 10⟩, 60000, true, 13⟩ := by kernel_rfl
  have r3 : Ts.read ⟨4, 2, 10⟩ 15 ⟨⟨[0, 10], none⟩, ⟨true, false, 10⟩, 60000, true, 13⟩ [] = ⟨2, 60000⟩ := by kernel_rfl
  have t3 : Ts.step ⟨4, 2, 10⟩ 15 ⟨⟨[0, 10], none⟩, ⟨true, false, 10⟩, 60000, true, 13⟩ [] = ⟨⟨[0, 10], none⟩, ⟨true, false, 10⟩, 60000, true, 16⟩ := by kernel_rfl
  have r4 : Ts.read ⟨4, 2, 10⟩ 20 ⟨⟨[0, 10], none⟩, ⟨true, false, 10⟩, 60000, true, 16⟩ [⟨0, 1, 0⟩] = ⟨1, 60000⟩ := by kernel_rfl
  have t4 : Ts.step ⟨4, 2, 10⟩ 20 ⟨⟨[0, 10], none⟩, ⟨true, false, 10⟩, 60000, true, 16⟩ [⟨0, 1, 0⟩] = ⟨⟨[0, 10, 20], none⟩, ⟨true, false, 20⟩, 60000, true, 21⟩ := by kernel_rfl
  unfold wk4
  exact outs_cons r0 t0 (outs_cons r1 t1 (outs_cons r2 t2 (outs_cons r3 t3 (outs_cons r4 t4 rfl))))
theorem ok4 : (⟨4, 2, 4⟩ : Cf).Ok := ⟨.inr (.inr (.inr (.inr ⟨rfl, by decide, by decide⟩))), by decide, by decide⟩
theorem ok5 : (⟨4, 2, 10⟩ : Cf).Ok := ⟨.inr (.inr (.inr (.inr ⟨rfl, by decide, by decide⟩))), by decide, by decide⟩
theorem ok6 : (⟨0, 0, 5⟩ : Cf).Ok := ⟨.inl ⟨rfl, rfl⟩, by decide, by decide⟩
theorem fine4 (g0 g1 g2 : Nat) : fineB (wk4 g0 g1 g2) = true := by kernel_rfl
theorem wk4_row {w : World} {g0 g1 g2 g : Nat} (h0 : w.heap[g0]? = some (.cells #[.int .i64 0, .int .i64 1, .int .i64 0] 37 (0, 0))) (h1 : w.heap[g1]? = some (.cells #[.int .i64 0, .int .i64 1, .int .i64 0] 37 (0, 0))) (h2 : w.heap[g2]? = some (.cells #[.int .i64 0, .int .i64 1, .int .i64 0] 37 (0, 0)))
    (h : w.heap[g]? = some (.cells #[.int .i64 0, .slice (some ⟨g0, 0, none⟩) 1 1, .int .i64 10, .slice (some ⟨g1, 0, none⟩) 1 1, .int .i64 12, .slice none 0 0, .int .i64 15, .slice none 0 0, .int .i64 20, .slice (some ⟨g2, 0, none⟩) 1 1] 35 (0, 0))) : SRow w (some ⟨g, 0, none⟩) 5 (wk4 g0 g1 g2) :=
  lit_srow h rfl rfl (fun x hx => by
    simp only [wk4, List.mem_cons, List.not_mem_nil, or_false] at hx
    rcases hx with rfl | rfl | rfl | rfl | rfl
    · exact in_lit h0 rfl rfl
    · exact in_lit h1 rfl rfl
    · exact in_nil w _
    · exact in_nil w _
    · exact in_lit h2 rfl rfl)
theorem are4 {W : World} {G g0 g1 g2 : Nat} (hr : SRow W (some ⟨G, 0, none⟩) 5 (wk4 g0 g1 g2)) : Calls Try.prog 18 #[.agg #[.int .i64 4, .int .i64 2, .int .i64 4], .slice (some ⟨G, 0, none⟩) 5 5, .slice (some ⟨W.heap.size, 0, none⟩) 10 10] (W.alloc (.cells #[.int .i64 0, .int .i64 0, .int .i64 0, .int .i64 0, .int .i64 0, .int .i64 0, .int .i64 3, .int .i64 0, .int .i64 0, .int .i64 0] 3)) fun e w' => e = .returned (.bool true) ∧ After W w' := by
  have h := are_lit (d := 5) (rs := [⟨0, 0⟩, ⟨0, 0⟩, ⟨0, 0⟩, ⟨3, 0⟩, ⟨0, 0⟩]) ok4 (hr.after (After.rfl.alloc (.cells #[.int .i64 0, .int .i64 0, .int .i64 0, .int .i64 0, .int .i64 0, .int .i64 0, .int .i64 3, .int .i64 0, .int .i64 0, .int .i64 0] 3))) (by omega) (fine4 g0 g1 g2) (outs4 g0 g1 g2) (heap_alloc_new W _) rfl rfl
  exact h.mono (fun e w' q => ⟨q.1, (After.rfl.alloc _).trans q.2⟩)
theorem are5 {W : World} {G g0 g1 g2 : Nat} (hr : SRow W (some ⟨G, 0, none⟩) 5 (wk4 g0 g1 g2)) : Calls Try.prog 18 #[.agg #[.int .i64 4, .int .i64 2, .int .i64 10], .slice (some ⟨G, 0, none⟩) 5 5, .slice (some ⟨W.heap.size, 0, none⟩) 10 10] (W.alloc (.cells #[.int .i64 0, .int .i64 0, .int .i64 1, .int .i64 60000, .int .i64 2, .int .i64 60000, .int .i64 2, .int .i64 60000, .int .i64 1, .int .i64 60000] 3)) fun e w' => e = .returned (.bool true) ∧ After W w' := by
  have h := are_lit (d := 5) (rs := [⟨0, 0⟩, ⟨1, 60000⟩, ⟨2, 60000⟩, ⟨2, 60000⟩, ⟨1, 60000⟩]) ok5 (hr.after (After.rfl.alloc (.cells #[.int .i64 0, .int .i64 0, .int .i64 1, .int .i64 60000, .int .i64 2, .int .i64 60000, .int .i64 2, .int .i64 60000, .int .i64 1, .int .i64 60000] 3))) (by omega) (fine4 g0 g1 g2) (outs5 g0 g1 g2) (heap_alloc_new W _) rfl rfl
  exact h.mono (fun e w' q => ⟨q.1, (After.rfl.alloc _).trans q.2⟩)
/-- A task that stands behind w0, by its next tick alone. -/
def Kst (w0 : World) (p : Nat) (c : Cf) (nx : Int) (w : World) : Prop := ∃ S s, Tk w p S c s ∧ (∀ i, S i → w0.heap.size ≤ i) ∧ After w0 w ∧ s.next = nx
def errN (nx t : Int) (l : List Rl) : Int := if t < nx ∨ 2147483647 < t then 9 else if 64 < l.length then 6 else if mays l = true then 0 else 2
theorem Kst.after {w0 : World} {p : Nat} {c : Cf} {nx : Int} {w w' : World} (h : Kst w0 p c nx w) (a : After w w') : Kst w0 p c nx w' := by
  obtain ⟨S, s, tk, lo, af, hn⟩ := h
  exact ⟨S, s, tk.after a, lo, af.trans a, hn⟩
theorem Kst.aft {w0 : World} {p : Nat} {c : Cf} {nx : Int} {w : World} (h : Kst w0 p c nx w) : After w0 w := by
  obtain ⟨S, s, tk, lo, af, hn⟩ := h
  exact af
theorem Kst.stepRow {w0 : World} {p : Nat} {c : Cf} {nx : Int} {w W : World} (h : Kst w0 p c nx w) (aW : After w W) (t : Int) (a : Option Addr) (n d : Nat) (l : List Rl) (hr : RRow W a n l) (hna : ∀ y, a = some y → w.heap.size ≤ y.block) (E nx' : Int) (he : errN nx t l = E) (hx : nx' = if E = 0 then t + 1 else nx) : Calls Try.prog 14 #[Ptr p, .int .i64 t, .slice a n d] W fun e w' => ∃ r v, e = .returned (.tuple #[.agg #[.int .i64 r, .int .i64 v], .int .i64 E]) ∧ Kst w0 p c nx' w' := by
  obtain ⟨S, s, tk, lo, af, hn⟩ := h
  have he' : s.err t l = E := by rw [← he, ← hn]; rfl
  refine (step_any (tk.after aW) t a n d l hr (fun y hy _ hs => by have := hna y hy; have := tk.lt _ hs; omega)).mono ?_
  rintro e w' ⟨rfl, S', h1, h2, h3⟩
  rw [he']
  have afW := af.trans aW
  refine ⟨_, _, rfl, S', _, h1, fun i hi => ?_, afW.then h3 (fun i hi t => by have := lo i t; omega), ?_⟩
  · rcases h2 i hi with t | t
    · exact lo i t
    · have := afW.size; omega
  · subst hx
    unfold Ts.go
    rw [he']
    by_cases h0 : E = 0
    · rw [if_pos h0, if_pos h0, Ts.step_next]
    · rw [if_neg h0, if_neg h0, hn]
theorem Kst.stepNil {w0 : World} {p : Nat} {c : Cf} {nx : Int} {w : World} (h : Kst w0 p c nx w) (t : Int) (E nx' : Int) (he : errN nx t [] = E) (hx : nx' = if E = 0 then t + 1 else nx) : Calls Try.prog 14 #[Ptr p, .int .i64 t, .slice none 0 0] w fun e w' => ∃ r v, e = .returned (.tuple #[.agg #[.int .i64 r, .int .i64 v], .int .i64 E]) ∧ Kst w0 p c nx' w' :=
  h.stepRow After.rfl t none 0 0 [] (RRow.nil _ _) (fun y hy => by cases hy) E nx' he hx
theorem Kst.stepNew {w0 : World} {p : Nat} {c : Cf} {nx : Int} {w : World} (h : Kst w0 p c nx w) {g : Nat} (hg : w.heap.size = g) (t : Int) (l : List Rl) (n : Nat) (hl : l.length = n) (cs : Array Value) (hcs : cs = (rls l).toArray) (E nx' : Int) (he : errN nx t l = E) (hx : nx' = if E = 0 then t + 1 else nx) : Calls Try.prog 14 #[Ptr p, .int .i64 t, .slice (some ⟨g, 0, none⟩) n n] (w.alloc (.cells cs 37)) fun e w' => ∃ r v, e = .returned (.tuple #[.agg #[.int .i64 r, .int .i64 v], .int .i64 E]) ∧ Kst w0 p c nx' w' := by
  subst hl
  subst hg
  subst hcs
  exact h.stepRow (After.rfl.alloc _) t _ _ _ l (rrow_blk (heap_alloc_new w _)) (fun y hy => by cases hy; exact Nat.le_refl _) E nx' he hx
theorem errK0 : errN 0 7 [] = 0 := by kernel_rfl
theorem errK1 : errN 8 7 [] = 9 := by kernel_rfl
theorem errK2 : errN 8 6 [] = 9 := by kernel_rfl
theorem errK3 : errN 8 2147483648 [] = 9 := by kernel_rfl
theorem errK4 : errN 8 8 (zeros 64) = 0 := by kernel_rfl
theorem errK5 : errN 9 9 (zeros 65) = 6 := by kernel_rfl
theorem errK6 : errN 9 9 [⟨0, 8388606, 0⟩] = 2 := by kernel_rfl
theorem check0 (w : World) (k n st : Int) (h : MayF k n st) : Calls Try.prog 17 #[.agg #[.int .i64 k, .int .i64 n, .int .i64 st]] w fun e w' => e = .returned (.int .i64 0) ∧ After w w' := by
  obtain ⟨c, hc, rfl, rfl, rfl⟩ := h.cf
  exact check_ok w c hc
theorem check2 (w : World) (k n st : Int) (h : ¬ MayF k n st) : Calls Try.prog 17 #[.agg #[.int .i64 k, .int .i64 n, .int .i64 st]] w fun e w' => e = .returned (.int .i64 2) ∧ After w w' := check_no w k n st h
end Go.Proofs.Ytgapnimicaopcaa
