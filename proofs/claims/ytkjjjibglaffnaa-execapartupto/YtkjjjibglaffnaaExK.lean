/-
  Tick, whatever tasks there are.
-/
import Derived.Test.YtkjjjibglaffnaaExJ
namespace Go.Proofs.Ytkjjjibglaffnaa
open Go.RowKit
set_option maxRecDepth 8000
theorem tick_nil (w : World) (v : Value) : Calls Try.prog 14 #[.pointer none, v] w fun e w' => e = .returned (.tuple #[.slice none 0 0, .int .i64 1]) ∧ After w w' := by
  go_enter_defers Try.func14, Try.ntmps14
  go_wp2_with fail
  exact ⟨.tuple #[.slice none 0 0, .int .i64 1], by simp [results, Try.results14, go_sem], rfl, After.rfl.alloc _⟩
/-- The exec's block, as its Tick is under way. -/
theorem tick_busy {w : World} {p : Nat} {fa sa : Option Addr} {fn fc sn sc : Nat} {lv : Value} {at_ : Int} (h : w.heap[p]? = some (.cells (exC (.slice fa fn fc) (.slice sa sn sc) lv at_ true) 73 (0, 0))) (hf : 1 ≤ fn) (v : Value) : Calls Try.prog 14 #[Ptr p, v] w fun e w' => e = .returned (.tuple #[.slice none 0 0, .int .i64 210]) ∧ After w w' := by
  have c0 := blk_cell h (i := 0) rfl
  have c4 := blk_cell h (i := 4) rfl
  have lp := blk_lt h
  have hz : ((fn : Int) == 0) = false := by simp; omega
  clear h hf
  go_enter_defers Try.func14, Try.ntmps14
  go_wp2_with fail
  exact ⟨.tuple #[.slice none 0 0, .int .i64 210], by simp [results, Try.results14, go_sem], rfl, After.rfl.alloc _⟩
theorem tick_arg {w : World} {p : Nat} {fa sa : Option Addr} {fn fc sn sc : Nat} {lv : Value} {at_ : Int} (h : w.heap[p]? = some (.cells (exC (.slice fa fn fc) (.slice sa sn sc) lv at_ false) 73 (0, 0))) (hf : 1 ≤ fn) {ta : Option Addr} {n tc : Nat} (hn : n ≠ sn) : Calls Try.prog 14 #[Ptr p, .slice ta n tc] w fun e w' => e = .returned (.tuple #[.slice none 0 0, .int .i64 2]) ∧ After w w' := by
  have c0 := blk_cell h (i := 0) rfl
  have c1 := blk_cell h (i := 1) rfl
  have c4 := blk_cell h (i := 4) rfl
  have lp := blk_lt h
  have hz : ((fn : Int) == 0) = false := by simp; omega
  have hne : ((n : Int) != (sn : Int)) = true := by simp; omega
  clear h hf hn
  go_enter_defers Try.func14, Try.ntmps14
  go_wp2_with fail
  exact ⟨.tuple #[.slice none 0 0, .int .i64 2], by simp [results, Try.results14, go_sem], rfl, After.rfl.alloc _⟩
/-- A minor frame's row among the exec's, and the task list's copy. -/
structure TkW (p eb : Nat) (w0 : World) (o : Nat → Nat) (x : Xp) (lv : Value) (fa : Option Addr) (fc : Nat) (sa : Option Addr) (sc : Nat) (fws : List Fw) (iv : List Iv) (Fin : Value → World → Prop) (L : Nat → Bool) (u : Nat → Value) (w : World) : Prop where
  i0 : L 5 = true → L 0 = true
  i1 : L 5 = true → L 2 = true
  i2 : L 5 = true → L 4 = true
  i3 : L 6 = true → L 5 = true
  i4 : L 2 = true → L 1 = true
  bx : L 5 = false → w.heap[eb]? = some (.cells #[Ptr p] 28 (0, 0))
  ex : L 5 = false → ExX w p o (if L 2 then x.next else x) lv true fa fc sa sc fws
  go : L 5 = false → But (One p) w0 w
  cl : L 5 = false → L 4 = true → ∃ g c, u 4 = .slice (some ⟨g, 0, none⟩) iv.length c ∧ w0.heap.size ≤ g ∧ GRow ivE w (some ⟨g, 0, none⟩) iv.length iv
  fin : L 5 = true → Fin (u 5) w
  p6 : L 6 = true → u 6 = u 5
section
variable {p eb : Nat} {w0 : World} {o : Nat → Nat} {x : Xp} {lv : Value} {fa : Option Addr} {fc : Nat} {sa : Option Addr} {sc : Nat} {fws : List Fw} {iv : List Iv} {Fin : Value → World → Prop} {L : Nat → Bool} {u : Nat → Value} {w w' : World}
theorem TkW.keep {T : Tab} {k : Nat} {v : Value} (h2 : 2 ≠ k) (h4 : 4 ≠ k) (h5 : 5 ≠ k) (h6 : 6 ≠ k) (d4 : T.D 4 ≠ T.D k) (d5 : T.D 5 ≠ T.D k) (d6 : T.D 6 ≠ T.D k) (L : Nat → Bool) (u : Nat → Value) (w : World) (y : TkW p eb w0 o x lv fa fc sa sc fws iv Fin L u w) : TkW p eb w0 o x lv fa fc sa sc fws iv Fin (more L k) (T.set k v u) w := by
  have e : ∀ i, T.D i ≠ T.D k → T.set k v u i = u i := fun i h => if_neg h
  refine ⟨?_, ?_, ?_, ?_, ?_, ?_, ?_, ?_, ?_, ?_, ?_⟩
  · rw [more_ne L h5]; intro h; unfold more; rw [y.i0 h]; rfl
  · rw [more_ne L h5, more_ne L h2]; exact y.i1
  · rw [more_ne L h5, more_ne L h4]; exact y.i2
  · rw [more_ne L h6, more_ne L h5]; exact y.i3
  · rw [more_ne L h2]; intro h; unfold more; rw [y.i4 h]; rfl
  · rw [more_ne L h5]; exact y.bx
  · rw [more_ne L h5, more_ne L h2]; exact y.ex
  · rw [more_ne L h5]; exact y.go
  · rw [more_ne L h5, more_ne L h4, e 4 d4]; exact y.cl
  · rw [more_ne L h5, e 5 d5]; exact y.fin
  · rw [more_ne L h6, e 6 d6, e 5 d5]; exact y.p6
theorem TkW.frame {T : Tab} {v : Value} (d4 : T.D 4 ≠ T.D 2) (y : TkW p eb w0 o x lv fa fc sa sc fws iv Fin L u w) (h1 : L 1 = true) (h : L 2 = false) (hx : ExX w' p o x.next lv true fa fc sa sc fws) (b : But (One p) w w') (hp : eb ≠ p) (hw : p < w0.heap.size) : TkW p eb w0 o x lv fa fc sa sc fws iv Fin (more L 2) (T.set 2 v u) w' := by
  have l5 := fls y.i1 h
  have l6 := fls y.i3 l5
  refine ⟨?_, ?_, ?_, ?_, ?_, ?_, ?_, ?_, ?_, ?_, ?_⟩
  · rw [more_ne L (neB rfl), l5]; intro h; cases h
  · rw [more_ne L (neB rfl), l5]; intro h; cases h
  · rw [more_ne L (neB rfl), l5]; intro h; cases h
  · rw [more_ne L (neB rfl), l6]; intro h; cases h
  · intro _; rw [more_ne L (show (1 : Nat) ≠ 2 by decide)]; exact h1
  · intro _; exact (b.block eb (blk_lt (y.bx l5)) (fun e => hp e)).trans (y.bx l5)
  · rw [more_self]; intro _; exact hx
  · intro _; exact (y.go l5).trans b
  · rw [more_ne L (neB rfl), more_ne L (neB rfl), show T.set 2 v u 4 = u 4 from if_neg d4]
    intro _ h4
    obtain ⟨g, c, e1, e2, e3⟩ := y.cl l5 h4
    exact ⟨g, c, e1, e2, e3.but b (fun z hz _ e => by cases hz; have e : g = p := e; omega)⟩
  · rw [more_ne L (neB rfl), l5]; intro h; cases h
  · rw [more_ne L (neB rfl), l6]; intro h; cases h
theorem TkW.copy {T : Tab} {v : Value} {g c : Nat} (y : TkW p eb w0 o x lv fa fc sa sc fws iv Fin L u w) (h : L 4 = false) (hv : v = .slice (some ⟨g, 0, none⟩) iv.length c) (hg : w0.heap.size ≤ g) (hr : GRow ivE w' (some ⟨g, 0, none⟩) iv.length iv) (a : After w w') : TkW p eb w0 o x lv fa fc sa sc fws iv Fin (more L 4) (T.set 4 v u) w' := by
  have l5 := fls y.i2 h
  have l6 := fls y.i3 l5
  refine ⟨?_, ?_, ?_, ?_, ?_, ?_, ?_, ?_, ?_, ?_, ?_⟩
  · rw [more_ne L (neB rfl), l5]; intro h; cases h
  · rw [more_ne L (neB rfl), l5]; intro h; cases h
  · rw [more_ne L (neB rfl), l5]; intro h; cases h
  · rw [more_ne L (neB rfl), l6]; intro h; cases h
  · rw [more_ne L (neB rfl), more_ne L (neB rfl)]; exact y.i4
  · intro _; exact (a.block eb (blk_lt (y.bx l5)) (fun t => t)).trans (y.bx l5)
  · rw [more_ne L (show (2 : Nat) ≠ 4 by decide)]; intro _; exact (y.ex l5).but a (fun _ _ t => t.elim) (fun _ _ => rfl)
  · intro _; exact (y.go l5).trans a.but
  · intro _ _; exact ⟨g, c, by rw [show T.set 4 v u 4 = v from if_pos rfl]; exact hv, hg, hr⟩
  · rw [more_ne L (neB rfl), l5]; intro h; cases h
  · rw [more_ne L (neB rfl), l6]; intro h; cases h
theorem TkW.turns {T : Tab} {v : Value} (y : TkW p eb w0 o x lv fa fc sa sc fws iv Fin L u w) (h0 : L 0 = true) (h2 : L 2 = true) (h4 : L 4 = true) (h : L 5 = false) (hf : Fin v w') : TkW p eb w0 o x lv fa fc sa sc fws iv Fin (more L 5) (T.set 5 v u) w' := by
  have l6 := fls y.i3 h
  refine ⟨?_, ?_, ?_, ?_, ?_, ?_, ?_, ?_, ?_, ?_, ?_⟩
  · intro _; rw [more_ne L (show (0 : Nat) ≠ 5 by decide)]; exact h0
  · intro _; rw [more_ne L (show (2 : Nat) ≠ 5 by decide)]; exact h2
  · intro _; rw [more_ne L (show (4 : Nat) ≠ 5 by decide)]; exact h4
  · rw [more_ne L (neB rfl), l6]; intro h; cases h
  · rw [more_ne L (neB rfl), more_ne L (neB rfl)]; exact y.i4
  · rw [more_self]; intro h; cases h
  · rw [more_self]; intro h; cases h
  · rw [more_self]; intro h; cases h
  · rw [more_self]; intro h; cases h
  · intro _
    rw [show T.set 5 v u 5 = v from if_pos rfl]; exact hf
  · rw [more_ne L (neB rfl), l6]; intro h; cases h
theorem TkW.last {T : Tab} {v : Value} (d5 : T.D 5 ≠ T.D 6) (d4 : T.D 4 ≠ T.D 6) (y : TkW p eb w0 o x lv fa fc sa sc fws iv Fin L u w) (h5 : L 5 = true) (hv : v = u 5) : TkW p eb w0 o x lv fa fc sa sc fws iv Fin (more L 6) (T.set 6 v u) w := by
  refine ⟨?_, ?_, ?_, ?_, ?_, ?_, ?_, ?_, ?_, ?_, ?_⟩
  · rw [more_ne L (neB rfl), more_ne L (neB rfl)]; exact y.i0
  · rw [more_ne L (neB rfl), more_ne L (neB rfl)]; exact y.i1
  · rw [more_ne L (neB rfl), more_ne L (neB rfl)]; exact y.i2
  · intro _; rw [more_ne L (show (5 : Nat) ≠ 6 by decide)]; exact h5
  · rw [more_ne L (neB rfl), more_ne L (neB rfl)]; exact y.i4
  · rw [more_ne L (neB rfl)]; exact y.bx
  · rw [more_ne L (neB rfl), more_ne L (neB rfl)]; exact y.ex
  · rw [more_ne L (neB rfl)]; exact y.go
  · rw [more_ne L (neB rfl), more_ne L (neB rfl), show T.set 6 v u 4 = u 4 from if_neg d4]; exact y.cl
  · rw [more_ne L (neB rfl), show T.set 6 v u 5 = u 5 from if_neg d5]; exact y.fin
  · intro _
    rw [show T.set 6 v u 5 = u 5 from if_neg d5, show T.set 6 v u 6 = v from if_pos rfl]; exact hv
end
end Go.Proofs.Ytkjjjibglaffnaa
