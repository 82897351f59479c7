/-
  What package lapse keeps, in memory: New, check, stands, Heard and State.
-/
import Derived.Test.YtgapnimicaopcaaGreatLpP
import Derived.Test.YtgapnimicaopcaaGreatBlk
namespace Go.Proofs.YtgapnimicaopcaaGreat.L13
open Go.RowKit
set_option maxRecDepth 8000
theorem four_at {w : World} {g : Nat} {T : TypeId} {x y z u : Value} (h : w.heap[g]? = some (.cells #[x, y, z, u] T (0, 0))) :
    g < w.heap.size ∧ w.cell? ⟨g, 0, none⟩ = some x ∧ w.cell? ⟨g, 1, none⟩ = some y ∧ w.cell? ⟨g, 2, none⟩ = some z ∧ w.cell? ⟨g, 3, none⟩ = some u ∧ w.frozen? ⟨g, 1, none⟩ = false ∧ w.frozen? ⟨g, 2, none⟩ = false ∧ w.frozen? ⟨g, 3, none⟩ = false := by
  refine ⟨(Array.getElem?_eq_some_iff.1 h).1, ?_, ?_, ?_, ?_, ?_, ?_, ?_⟩
  · simp [World.cell?, h]
  · simp [World.cell?, h]
  · simp [World.cell?, h]
  · simp [World.cell?, h]
  · simp [World.frozen?, h]
  · simp [World.frozen?, h]
  · simp [World.frozen?, h]
/-- Which limits may be. -/
def May (n : Int) : Prop := 1 ≤ n ∧ n ≤ 10000
/-- By a limit of n, at p: what was heard. -/
structure LpX (w : World) (p n : Nat) (s : Ls) : Prop where
  at0 : w.heap[p]? = some (.cells #[.int .i64 (n : Int), .bool s.any, .bool s.off, .int .i64 s.last] 93 (0, 0))
  may : 1 ≤ n ∧ n ≤ 10000
  ok : s.Ok
theorem LpX.lt {w : World} {p n : Nat} {s : Ls} (x : LpX w p n s) : p < w.heap.size := blk_lt x.at0
theorem LpX.but {S : Nat → Prop} {w w' : World} {p n : Nat} {s : Ls} (x : LpX w p n s) (b : But S w w') (hp : ¬ S p) : LpX w' p n s :=
  { x with at0 := (b.block p (blk_lt x.at0) hp).trans x.at0 }
theorem LpX.after {w w' : World} {p n : Nat} {s : Ls} (x : LpX w p n s) (a : After w w') : LpX w' p n s := x.but a (fun t => t)
theorem lp_new {w : World} {p n : Nat} (h : w.heap[p]? = some (.cells #[.int .i64 (n : Int), .bool false, .bool false, .int .i64 0] 93 (0, 0))) (h1 : 1 ≤ n) (h2 : n ≤ 10000) : LpX w p n Ls.new :=
  ⟨h, ⟨h1, h2⟩, Ls.Ok.new⟩
theorem lpNew_ok (w : World) (n : Int) (h : May n) : Calls Tryz.prog 13 #[.int .i64 n] w fun e w' => e = .returned (.tuple #[Ptr w.heap.size, .int .i64 0]) ∧ w' = w.alloc (.cells #[.int .i64 n, .bool false, .bool false, .int .i64 0] 93) := by
  obtain ⟨h1, h2⟩ := h
  go_enter Tryz.func13, Tryz.ntmps13
  go_wp2
  go_ret2
  exact ⟨rfl, rfl⟩
theorem lpNew_no (w : World) (n : Int) (h : ¬ May n) : Calls Tryz.prog 13 #[.int .i64 n] w fun e w' => e = .returned (.tuple #[.pointer none, .int .i64 2]) ∧ w' = w := by
  rcases (by unfold May at h; omega : n < 1 ∨ (¬ n < 1 ∧ 10000 < n)) with h1 | ⟨h1, h2⟩
  all_goals
    clear h
    go_enter Tryz.func13, Tryz.ntmps13
    go_wp2
    go_ret2
    exact ⟨rfl, rfl⟩
theorem lpCheck_any {w : World} {p n : Nat} {s : Ls} (x : LpX w p n s) (t : Int) : Calls Tryz.prog 53 #[Ptr p, .int .i64 t] w fun e w' => e = .returned (.int .i64 (s.err t)) ∧ w' = w := by
  obtain ⟨_, c0, c1, c2, c3, _, _, _⟩ := four_at x.at0
  have hn : ¬ (n : Int) = 0 := by have := x.may; omega
  have hb : ((n : Int) == 0) = false := by simpa using hn
  rcases s.fits_cases t with h | ⟨h, h1⟩ | ⟨h, h1, h2⟩
  · rw [Ls.err_yes h]
    have h1 : ¬ t < s.last := by have := h.1; omega
    have h2 : ¬ 2147483647 < t := by have := h.2; omega
    clear x hn h
    generalize s.last = L at *
    go_enter Tryz.func53, Tryz.ntmps53
    go_wp2
    go_ret
    exact ⟨rfl, rfl⟩
  · rw [Ls.err_no h]
    clear x hn h
    generalize s.last = L at *
    go_enter Tryz.func53, Tryz.ntmps53
    go_wp2
    go_ret
    exact ⟨rfl, rfl⟩
  · rw [Ls.err_no h]
    clear x hn h
    generalize s.last = L at *
    go_enter Tryz.func53, Tryz.ntmps53
    go_wp2
    go_ret
    exact ⟨rfl, rfl⟩
theorem lpStands_any {w : World} {p n : Nat} {s : Ls} (x : LpX w p n s) {t : Int} (hf : s.Fits t) : Calls Tryz.prog 54 #[Ptr p, .int .i64 t] w fun e w' => e = .returned (.int .i64 (s.stands n t)) ∧ w' = w := by
  obtain ⟨_, c0, c1, c2, c3, _, _, _⟩ := four_at x.at0
  have b1 := x.ok.lo
  have b2 := hf.1
  have b3 := hf.2
  have hc := s.stands_cases n t hf.1
  obtain ⟨D, hD⟩ : ∃ D, D = t - s.last := ⟨_, rfl⟩
  have hD' : t - s.last = D := hD.symm
  have hw : IntKind.i64.wrap D = D := IntWalk.i64_in _ (by omega)
  have hd0 : 0 ≤ D := by omega
  have hd1 : t = s.last → D = 0 := by omega
  have hd2 : s.last < t → ¬ D = 0 := by omega
  rw [hD'] at hc
  clear x hf hD
  generalize s.stands n t = S at *
  generalize s.last = L at *
  rcases hc with ⟨h1, rfl⟩ | ⟨h1, h2, rfl⟩ | ⟨h1, h2, h3, h4, rfl⟩ | ⟨h1, h2, h3, h4, rfl⟩ | ⟨h1, h2, h3, h4, rfl⟩ | ⟨h1, h2, h3, h4, rfl⟩
  · clear hd1 hd2
    go_enter Tryz.func54, Tryz.ntmps54
    go_wp2
    go_ret
    exact ⟨rfl, rfl⟩
  · rw [h2] at c1
    clear hd1 hd2 h2
    go_enter Tryz.func54, Tryz.ntmps54
    go_wp2
    go_ret
    exact ⟨rfl, rfl⟩
  · rw [h2] at c1
    rw [h3] at c2
    have h5 := hd1 h4
    have h6 : (D == 0) = true := by rw [h5]; rfl
    clear hd1 hd2 h2 h3 h4 h5
    go_enter Tryz.func54, Tryz.ntmps54
    go_wp2
    go_ret
    exact ⟨rfl, rfl⟩
  · rw [h2] at c1
    rw [h3] at c2
    have h5 := hd2 h4
    have h6 : (D == 0) = false := by simpa using h5
    clear hd1 hd2 h2 h3 h4 h5
    go_enter Tryz.func54, Tryz.ntmps54
    go_wp2
    go_ret
    exact ⟨rfl, rfl⟩
  · rw [h2] at c1
    rw [h3] at c2
    have h5 := hd1 h4
    have h6 : (D == 0) = true := by rw [h5]; rfl
    clear hd1 hd2 h2 h3 h4 h5
    go_enter Tryz.func54, Tryz.ntmps54
    go_wp2
    go_ret
    exact ⟨rfl, rfl⟩
  · rw [h2] at c1
    rw [h3] at c2
    have h5 := hd2 h4
    have h6 : (D == 0) = false := by simpa using h5
    clear hd1 hd2 h2 h3 h4 h5
    go_enter Tryz.func54, Tryz.ntmps54
    go_wp2
    go_ret
    exact ⟨rfl, rfl⟩
theorem lpState_any {w : World} {p n : Nat} {s : Ls} (x : LpX w p n s) (t : Int) : Calls Tryz.prog 39 #[Ptr p, .int .i64 t] w fun e w' => e = .returned (.tuple #[.int .i64 (s.ans n t), .int .i64 (s.err t)]) ∧ w' = w := by
  have HC := hideIt (lpCheck_any x t)
  by_cases h : s.Fits t
  · have HS := hideIt (lpStands_any x h)
    rw [Ls.ans_yes h]
    rw [Ls.err_yes h] at HC ⊢
    clear x h
    generalize s.stands n t = S at *
    go_enter Tryz.func39, Tryz.ntmps39
    go_wp2_with fail
    refine HC.out.mono ?_
    rintro e w' ⟨rfl, rfl⟩
    go_wp2_with fail
    refine HS.out.mono ?_
    rintro e w' ⟨rfl, rfl⟩
    go_wp2
    go_ret2
    exact ⟨rfl, rfl⟩
  · rw [Ls.ans_no h]
    rw [Ls.err_no h] at HC ⊢
    clear x h
    go_enter Tryz.func39, Tryz.ntmps39
    go_wp2_with fail
    refine HC.out.mono ?_
    rintro e w' ⟨rfl, rfl⟩
    go_wp2
    go_ret2
    exact ⟨rfl, rfl⟩
theorem lpHeard_yes {w : World} {p n : Nat} {s : Ls} (x : LpX w p n s) {t : Int} (h : s.Fits t) (o : Bool) : Calls Tryz.prog 41 #[Ptr p, .int .i64 t, .bool o] w fun e w' => e = .returned (.int .i64 0) ∧ w' = ((w.setCell ⟨p, 1, none⟩ (.bool true)).setCell ⟨p, 2, none⟩ (.bool o)).setCell ⟨p, 3, none⟩ (.int .i64 t) := by
  have HC := hideIt (lpCheck_any x t)
  obtain ⟨_, c0, c1, c2, c3, f1, f2, f3⟩ := four_at x.at0
  rw [Ls.err_yes h] at HC
  clear x h
  go_enter Tryz.func41, Tryz.ntmps41
  go_wp2_with fail
  refine HC.out.mono ?_
  rintro e w' ⟨rfl, rfl⟩
  clear HC
  go_wp2
  go_ret
  exact ⟨rfl, rfl⟩
theorem lpHeard_any {w : World} {p n : Nat} {s : Ls} (x : LpX w p n s) (t : Int) (o : Bool) : Calls Tryz.prog 41 #[Ptr p, .int .i64 t, .bool o] w fun e w' => e = .returned (.int .i64 (s.err t)) ∧ LpX w' p n (s.hear t o) ∧ But (One p) w w' := by
  by_cases h : s.Fits t
  · refine (lpHeard_yes x h o).mono ?_
    rintro e w' ⟨rfl, rfl⟩
    refine ⟨by rw [Ls.err_yes h], ⟨?_, x.may, x.ok.hear t o⟩, ((but_one w p 1 _).trans (but_one _ p 2 _)).trans (but_one _ p 3 _)⟩
    rw [Ls.hear_yes h]
    have := blk_put (blk_put (blk_put x.at0 1 (.bool true)) 2 (.bool o)) 3 (.int .i64 t)
    exact this
  · have HC := hideIt (lpCheck_any x t)
    have HX := hideIt x
    rw [Ls.err_no h] at HC ⊢
    rw [Ls.hear_no h]
    clear x h
    go_enter Tryz.func41, Tryz.ntmps41
    go_wp2_with fail
    refine HC.out.mono ?_
    rintro e w' ⟨rfl, rfl⟩
    clear HC
    go_wp2
    go_ret
    exact ⟨rfl, HX.out, But.rfl⟩
/-- What is none answers so. -/
def NoneL (w : World) (v : Value) : Prop := ∀ t, Calls Tryz.prog 53 #[v, .int .i64 t] w fun e w' => e = .returned (.int .i64 1) ∧ w' = w
theorem lpNone_nil (w : World) : NoneL w (.pointer none) := by
  intro t
  go_enter Tryz.func53, Tryz.ntmps53
  go_wp2
  go_ret
  exact ⟨rfl, rfl⟩
theorem lpNone_zero {w : World} {p : Nat} {x y z : Value} (h : w.heap[p]? = some (.cells #[.int .i64 0, x, y, z] 93 (0, 0))) : NoneL w (Ptr p) := by
  intro t
  obtain ⟨_, c0, _, _, _, _, _, _⟩ := four_at h
  clear h
  go_enter Tryz.func53, Tryz.ntmps53
  go_wp2
  go_ret
  exact ⟨rfl, rfl⟩
theorem lpHeard_none {w : World} {v : Value} (h : NoneL w v) (t : Int) (o : Bool) : Calls Tryz.prog 41 #[v, .int .i64 t, .bool o] w fun e w' => e = .returned (.int .i64 1) ∧ w' = w := by
  have H := hideIt (h t)
  clear h
  go_enter Tryz.func41, Tryz.ntmps41
  go_wp2_with fail
  refine H.out.mono ?_
  rintro e w' ⟨rfl, rfl⟩
  go_wp2
  go_ret
  exact ⟨rfl, rfl⟩
theorem lpState_none {w : World} {v : Value} (h : NoneL w v) (t : Int) : Calls Tryz.prog 39 #[v, .int .i64 t] w fun e w' => e = .returned (.tuple #[.int .i64 0, .int .i64 1]) ∧ w' = w := by
  have H := hideIt (h t)
  clear h
  go_enter Tryz.func39, Tryz.ntmps39
  go_wp2_with fail
  refine H.out.mono ?_
  rintro e w' ⟨rfl, rfl⟩
  go_wp2
  go_ret2
  exact ⟨rfl, rfl⟩
end Go.Proofs.YtgapnimicaopcaaGreat.L13
