/-
  The document's: New, asked, Heard and State.
-/
import Derived.Test.YtgapnimicaopcaaGreatLpA
import Derived.Deep.QuietTactic
import Derived.BigQuiet
namespace Go.Proofs.YtgapnimicaopcaaGreat.L13
open Go.RowKit
set_option maxRecDepth 8000
/-- Draws alone. -/
def Dr (w w' : World) : Prop := ∃ m, w' = w.drewN m
theorem Dr.rfl {w : World} : Dr w w := ⟨0, Eq.refl _⟩
theorem Dr.after {w w' : World} (h : Dr w w') : After w w' := by
  obtain ⟨m, rfl⟩ := h
  exact After.rfl.draws m
/-- The document's, by a limit of n, at p: what was heard. -/
structure RpX (w : World) (p n : Nat) (s : Ls) : Prop where
  at0 : w.heap[p]? = some (.cells #[.int .i64 (n : Int), .bool s.any, .int .i64 s.last, .bool s.off] 95 (0, 0))
  may : 1 ≤ n ∧ n ≤ 10000
  ok : s.Ok
theorem RpX.lt {w : World} {p n : Nat} {s : Ls} (x : RpX w p n s) : p < w.heap.size := blk_lt x.at0
theorem RpX.but {S : Nat → Prop} {w w' : World} {p n : Nat} {s : Ls} (x : RpX w p n s) (b : But S w w') (hp : ¬ S p) : RpX w' p n s :=
  { x with at0 := (b.block p (blk_lt x.at0) hp).trans x.at0 }
theorem RpX.after {w w' : World} {p n : Nat} {s : Ls} (x : RpX w p n s) (a : After w w') : RpX w' p n s := x.but a (fun t => t)
theorem rp_new {w : World} {p n : Nat} (h : w.heap[p]? = some (.cells #[.int .i64 (n : Int), .bool false, .int .i64 0, .bool false] 95 (0, 0))) (h1 : 1 ≤ n) (h2 : n ≤ 10000) : RpX w p n Ls.new :=
  ⟨h, ⟨h1, h2⟩, Ls.Ok.new⟩
theorem rpNew_ok (w : World) (n : Int) (h : May n) : Calls Tryz.prog 14 #[.int .i64 n] w fun e w' => e = .returned (.tuple #[Ptr w.heap.size, .int .i64 0]) ∧ w' = w.alloc (.cells #[.int .i64 n, .bool false, .int .i64 0, .bool false] 95) := by
  obtain ⟨h1, h2⟩ := h
  go_enter Tryz.func14, Tryz.ntmps14
  go_wp2
  go_ret2
  exact ⟨rfl, rfl⟩
theorem rpNew_no (w : World) (n : Int) (h : ¬ May n) : Calls Tryz.prog 14 #[.int .i64 n] w fun e w' => e = .returned (.tuple #[.pointer none, .int .i64 2]) ∧ w' = w := by
  rcases (by unfold May at h; omega : n < 1 ∨ (¬ n < 1 ∧ 10000 < n)) with h1 | ⟨h1, h2⟩
  all_goals
    clear h
    go_enter Tryz.func14, Tryz.ntmps14
    go_wp2
    go_ret2
    exact ⟨rfl, rfl⟩
theorem rpAsked_any {w : World} {p n : Nat} {s : Ls} (x : RpX w p n s) (t : Int) : Calls Tryz.prog 43 #[Ptr p, .int .i64 t] w fun e w' => e = .returned (.int .i64 (s.err t)) ∧ w' = w := by
  obtain ⟨_, c0, c1, c2, c3, _, _, _⟩ := four_at x.at0
  have hn : ¬ (n : Int) = 0 := by have := x.may; omega
  have hb : ((n : Int) == 0) = false := by simpa using hn
  have hlo := x.ok.lo
  have hno := x.ok.none
  by_cases h : s.Fits t
  · rw [Ls.err_yes h]
    have h0 : ¬ t < 0 := by have := h.1; omega
    have h1 : ¬ t < s.last := by have := h.1; omega
    have h2 : ¬ 2147483647 < t := by have := h.2; omega
    clear x hn h hno
    obtain ⟨any, off, L⟩ := s
    dsimp only at *
    cases any
    all_goals
      go_enter Tryz.func43, Tryz.ntmps43
      go_wp2
      go_ret
      exact ⟨rfl, rfl⟩
  · rw [Ls.err_no h]
    have hc : t < 0 ∨ (¬ t < 0 ∧ 2147483647 < t) ∨ (¬ t < 0 ∧ ¬ 2147483647 < t ∧ t < s.last) := by unfold Ls.Fits at h; omega
    rcases hc with h1 | ⟨h1, h2⟩ | ⟨h1, h2, h3⟩
    · clear x hn h hno
      go_enter Tryz.func43, Tryz.ntmps43
      go_wp2
      go_ret
      exact ⟨rfl, rfl⟩
    · clear x hn h hno
      go_enter Tryz.func43, Tryz.ntmps43
      go_wp2
      go_ret
      exact ⟨rfl, rfl⟩
    · have hy : s.any = true := by
        cases he : s.any
        · have := hno he; omega
        · rfl
      rw [hy] at c1
      clear x hn h hno hy
      generalize s.last = L at *
      go_enter Tryz.func43, Tryz.ntmps43
      go_wp2
      go_ret
      exact ⟨rfl, rfl⟩
theorem rpHeard_yes {w : World} {p n : Nat} {s : Ls} (x : RpX w p n s) {t : Int} (h : s.Fits t) (o : Bool) : Calls Tryz.prog 24 #[Ptr p, .int .i64 t, .bool o] w fun e w' => e = .returned (.int .i64 0) ∧ w' = ((w.setCell ⟨p, 1, none⟩ (.bool true)).setCell ⟨p, 2, none⟩ (.int .i64 t)).setCell ⟨p, 3, none⟩ (.bool o) := by
  have HC := hideIt (rpAsked_any x t)
  obtain ⟨_, c0, c1, c2, c3, f1, f2, f3⟩ := four_at x.at0
  rw [Ls.err_yes h] at HC
  clear x h
  go_enter Tryz.func24, Tryz.ntmps24
  go_wp2_with fail
  refine HC.out.mono ?_
  rintro e w' ⟨rfl, rfl⟩
  clear HC
  go_wp2
  go_ret
  exact ⟨rfl, rfl⟩
theorem rpHeard_any {w : World} {p n : Nat} {s : Ls} (x : RpX w p n s) (t : Int) (o : Bool) : Calls Tryz.prog 24 #[Ptr p, .int .i64 t, .bool o] w fun e w' => e = .returned (.int .i64 (s.err t)) ∧ RpX w' p n (s.hear t o) ∧ But (One p) w w' := by
  by_cases h : s.Fits t
  · refine (rpHeard_yes x h o).mono ?_
    rintro e w' ⟨rfl, rfl⟩
    refine ⟨by rw [Ls.err_yes h], ⟨?_, x.may, x.ok.hear t o⟩, ((but_one w p 1 _).trans (but_one _ p 2 _)).trans (but_one _ p 3 _)⟩
    rw [Ls.hear_yes h]
    have := blk_put (blk_put (blk_put x.at0 1 (.bool true)) 2 (.int .i64 t)) 3 (.bool o)
    exact this
  · have HC := hideIt (rpAsked_any x t)
    have HX := hideIt x
    rw [Ls.err_no h] at HC ⊢
    rw [Ls.hear_no h]
    clear x h
    go_enter Tryz.func24, Tryz.ntmps24
    go_wp2_with fail
    refine HC.out.mono ?_
    rintro e w' ⟨rfl, rfl⟩
    clear HC
    go_wp2
    go_ret
    exact ⟨rfl, HX.out, But.rfl⟩
set_option maxHeartbeats 1000000 in
theorem rpState_yes {w : World} {p n : Nat} {s : Ls} (x : RpX w p n s) {t : Int} (hf : s.Fits t) : Calls Tryz.prog 22 #[Ptr p, .int .i64 t] w fun e w' => e = .returned (.tuple #[.int .i64 (s.stands n t), .int .i64 0]) ∧ Dr w w' := by
  have HC := hideIt (rpAsked_any x t)
  rw [Ls.err_yes hf] at HC
  obtain ⟨_, c0, c1, c2, c3, _, _, _⟩ := four_at x.at0
  have b1 := x.ok.lo
  have b2 := hf.1
  have b3 := hf.2
  have hno := x.ok.none
  have hc := s.stands_cases n t hf.1
  clear x hf
  generalize s.stands n t = S at *
  obtain ⟨any, off, L⟩ := s
  dsimp only at *
  obtain ⟨D, hD⟩ : ∃ D, D = t - L := ⟨_, rfl⟩
  have hD' : t - L = D := hD.symm
  have hw : IntKind.i64.wrap D = D := IntWalk.i64_in _ (by omega)
  cases any
  · have h0 := hno rfl
    subst h0
    have hc' : (¬ t ≤ (n : Int) ∧ S = 3) ∨ (t ≤ (n : Int) ∧ S = 0) := by
      rcases hc with ⟨h1, rfl⟩ | ⟨h1, h2, rfl⟩ | ⟨_, h2, _⟩ | ⟨_, h2, _⟩ | ⟨_, h2, _⟩ | ⟨_, h2, _⟩
      · left; exact ⟨by omega, rfl⟩
      · right; exact ⟨by omega, rfl⟩
      all_goals cases h2
    clear hc hno hD hD' hw
    rcases hc' with ⟨h1, rfl⟩ | ⟨h1, rfl⟩
    · go_enter Tryz.func22, Tryz.ntmps22
      go_wp2_with fail
      refine HC.out.mono ?_
      rintro e w' ⟨rfl, rfl⟩
      clear HC
      go_wp2
      go_quiet (fail)
      go_wp2
      go_ret2
      exact ⟨rfl, _, rfl⟩
    · go_enter Tryz.func22, Tryz.ntmps22
      go_wp2_with fail
      refine HC.out.mono ?_
      rintro e w' ⟨rfl, rfl⟩
      clear HC
      go_wp2
      go_ret2
      exact ⟨rfl, Dr.rfl⟩
  · rw [hD'] at hc
    have hc' : ((n : Int) < D ∧ S = 3) ∨ (¬ (n : Int) < D ∧ off = true ∧ S = 4) ∨ (¬ (n : Int) < D ∧ off = false ∧ t = L ∧ S = 1) ∨ (¬ (n : Int) < D ∧ off = false ∧ ¬ t = L ∧ S = 2) := by
      rcases hc with ⟨h1, rfl⟩ | ⟨_, h2, _⟩ | ⟨h1, _, h3, h4, rfl⟩ | ⟨h1, _, h3, h4, rfl⟩ | ⟨h1, _, h3, h4, rfl⟩ | ⟨h1, _, h3, h4, rfl⟩
      · exact .inl ⟨h1, rfl⟩
      · cases h2
      · exact .inr (.inl ⟨h1, h3, rfl⟩)
      · exact .inr (.inl ⟨h1, h3, rfl⟩)
      · exact .inr (.inr (.inl ⟨h1, h3, h4, rfl⟩))
      · exact .inr (.inr (.inr ⟨h1, h3, by omega, rfl⟩))
    clear hc hno hD
    rcases hc' with ⟨h1, rfl⟩ | ⟨h1, rfl, rfl⟩ | ⟨h1, rfl, h4, rfl⟩ | ⟨h1, rfl, h4, rfl⟩
    · have hd : decide ((n : Int) < D) = true := decide_eq_true h1
      go_enter Tryz.func22, Tryz.ntmps22
      go_wp2_with fail
      refine HC.out.mono ?_
      rintro e w' ⟨rfl, rfl⟩
      clear HC
      go_wp2
      go_quiet (fail)
      go_wp2
      go_ret2
      exact ⟨rfl, _, rfl⟩
    · have hd : decide ((n : Int) < D) = false := decide_eq_false h1
      go_enter Tryz.func22, Tryz.ntmps22
      go_wp2_with fail
      refine HC.out.mono ?_
      rintro e w' ⟨rfl, rfl⟩
      clear HC
      go_wp2
      go_quiet (fail)
      go_wp2
      go_ret2
      exact ⟨rfl, _, rfl⟩
    · have hd : decide ((n : Int) < D) = false := decide_eq_false h1
      have hq : (t == L) = true := by simpa using h4
      clear h4
      go_enter Tryz.func22, Tryz.ntmps22
      go_wp2_with fail
      refine HC.out.mono ?_
      rintro e w' ⟨rfl, rfl⟩
      clear HC
      go_wp2
      go_quiet (fail)
      go_wp2
      go_ret2
      exact ⟨rfl, _, rfl⟩
    · have hd : decide ((n : Int) < D) = false := decide_eq_false h1
      have hq : (t == L) = false := by simpa using h4
      clear h4
      go_enter Tryz.func22, Tryz.ntmps22
      go_wp2_with fail
      refine HC.out.mono ?_
      rintro e w' ⟨rfl, rfl⟩
      clear HC
      go_wp2
      go_quiet (fail)
      go_wp2
      go_ret2
      exact ⟨rfl, _, rfl⟩
theorem rpState_any {w : World} {p n : Nat} {s : Ls} (x : RpX w p n s) (t : Int) : Calls Tryz.prog 22 #[Ptr p, .int .i64 t] w fun e w' => e = .returned (.tuple #[.int .i64 (s.ans n t), .int .i64 (s.err t)]) ∧ Dr w w' := by
  by_cases h : s.Fits t
  · rw [Ls.ans_yes h, Ls.err_yes h]
    exact rpState_yes x h
  · have HC := hideIt (rpAsked_any x t)
    rw [Ls.ans_no h]
    rw [Ls.err_no h] at HC ⊢
    clear x h
    go_enter Tryz.func22, Tryz.ntmps22
    go_wp2_with fail
    refine HC.out.mono ?_
    rintro e w' ⟨rfl, rfl⟩
    go_wp2
    go_ret2
    exact ⟨rfl, Dr.rfl⟩
theorem rpAsked_nil (w : World) (t : Int) : Calls Tryz.prog 43 #[.pointer none, .int .i64 t] w fun e w' => e = .returned (.int .i64 1) ∧ w' = w := by
  go_enter Tryz.func43, Tryz.ntmps43
  go_wp2
  go_ret
  exact ⟨rfl, rfl⟩
theorem rpHeard_nil (w : World) (t : Int) (o : Bool) : Calls Tryz.prog 24 #[.pointer none, .int .i64 t, .bool o] w fun e w' => e = .returned (.int .i64 1) ∧ w' = w := by
  have H := hideIt (rpAsked_nil w t)
  go_enter Tryz.func24, Tryz.ntmps24
  go_wp2_with fail
  refine H.out.mono ?_
  rintro e w' ⟨rfl, rfl⟩
  go_wp2
  go_ret
  exact ⟨rfl, rfl⟩
theorem rpState_nil (w : World) (t : Int) : Calls Tryz.prog 22 #[.pointer none, .int .i64 t] w fun e w' => e = .returned (.tuple #[.int .i64 0, .int .i64 1]) ∧ w' = w := by
  have H := hideIt (rpAsked_nil w t)
  go_enter Tryz.func22, Tryz.ntmps22
  go_wp2_with fail
  refine H.out.mono ?_
  rintro e w' ⟨rfl, rfl⟩
  go_wp2
  go_ret2
  exact ⟨rfl, rfl⟩
end Go.Proofs.YtgapnimicaopcaaGreat.L13
