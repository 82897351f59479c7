/-
  Cells and turns in memory; closures that ask bounds; isNone, isStopped, Fail, Use.
-/
import Derived.Test.YtkjjjibglaffnaaExP
import Derived.Test.YtkjjjibglaffnaaFoA
import Derived.Deep.DeepMust
import Derived.BigQuiet
namespace Go.Proofs.Ytkjjjibglaffnaa
open Go.RowKit
set_option maxRecDepth 8000
def lkE : Enc Lk where
  k := 4
  enc l := [.int .i64 l.f, .int .i64 l.t, .int .i64 (l.o.getD 0), .bool l.o.isSome]
  len _ := rfl
  one x u hu := by
    simp only [List.mem_cons, List.not_mem_nil, or_false] at hu
    rcases hu with rfl | rfl | rfl | rfl <;> rfl
  pos := by decide
def deE : Enc De where
  k := 3
  enc d := [.int .i64 d.k, .int .i64 d.a, .int .i64 d.b]
  len _ := rfl
  one x u hu := by
    simp only [List.mem_cons, List.not_mem_nil, or_false] at hu
    rcases hu with rfl | rfl | rfl <;> rfl
  pos := by decide
def heE : Enc He where
  k := 2
  enc h := [.int .i64 h.v, .bool h.is]
  len _ := rfl
  one x u hu := by
    simp only [List.mem_cons, List.not_mem_nil, or_false] at hu
    rcases hu with rfl | rfl <;> rfl
  pos := by decide
abbrev tuC (p : Int) (t : Tn) (s : Int) (lv : Value) (en : Bool) : Array Value := #[.int .i64 p, .int .i64 t.u, .bool t.ov, .bool t.fa, .int .i64 s, lv, .bool en]
/-- A cell lies at c, its turn at b. -/
structure Cl (w : World) (c b : Nat) (p : Int) (t : Tn) (s : Int) (lv : Value) (en : Bool) : Prop where
  c0 : w.heap[c]? = some (.cells #[Ptr b] 77 (0, 0))
  t0 : w.heap[b]? = some (.cells (tuC p t s lv en) 105 (0, 0))
theorem Cl.but {S : Nat → Prop} {w w' : World} {c b : Nat} {p : Int} {t : Tn} {s : Int} {lv : Value} {en : Bool} (x : Cl w c b p t s lv en) (h : But S w w') (h1 : ¬ S c) (h2 : ¬ S b) : Cl w' c b p t s lv en :=
  ⟨(h.block c (blk_lt x.c0) h1).trans x.c0, (h.block b (blk_lt x.t0) h2).trans x.t0⟩
theorem Cl.after {w w' : World} {c b : Nat} {p : Int} {t : Tn} {s : Int} {lv : Value} {en : Bool} (x : Cl w c b p t s lv en) (h : After w w') : Cl w' c b p t s lv en := x.but h (fun t => t) (fun t => t)
theorem Cl.ne {w : World} {c b : Nat} {p : Int} {t : Tn} {s : Int} {lv : Value} {en : Bool} (x : Cl w c b p t s lv en) : c ≠ b := fun e => by
  have h1 := x.c0
  rw [e, x.t0] at h1
  cases h1
/-- What is none, or whose turn is over. -/
def NoneC (w : World) (v : Value) : Prop := v = .pointer none ∨ ∃ c, v = Ptr c ∧ (w.heap[c]? = some (.cells #[.pointer none] 77 (0, 0)) ∨ ∃ b p t s lv, Cl w c b p t s lv true)
theorem NoneC.after {w w' : World} {v : Value} (x : NoneC w v) (h : After w w') : NoneC w' v := by
  rcases x with rfl | ⟨c, rfl, h1 | ⟨b, p, t, s, lv, h1⟩⟩
  · exact .inl rfl
  · exact .inr ⟨c, rfl, .inl ((h.block c (blk_lt h1) (fun t => t)).trans h1)⟩
  · exact .inr ⟨c, rfl, .inr ⟨b, p, t, s, lv, h1.after h⟩⟩
theorem isNone_yes {w : World} {v : Value} (x : NoneC w v) : Calls Try.prog 35 #[v] w fun e w' => e = .returned (.bool true) ∧ w' = w := by
  rcases x with rfl | ⟨c, rfl, h1 | ⟨b, p, t, s, lv, h1⟩⟩
  · go_enter Try.func35, Try.ntmps35
    go_wp2
    go_ret
    exact ⟨rfl, rfl⟩
  · have c0 := blk_cell h1 (i := 0) rfl
    clear h1
    go_enter Try.func35, Try.ntmps35
    go_wp2
    go_ret
    exact ⟨rfl, rfl⟩
  · have c0 := blk_cell h1.c0 (i := 0) rfl
    have c1 := blk_cell h1.t0 (i := 6) rfl
    clear h1
    go_enter Try.func35, Try.ntmps35
    go_wp2
    go_ret
    exact ⟨rfl, rfl⟩
theorem isNone_no {w : World} {c b : Nat} {p : Int} {t : Tn} {s : Int} {lv : Value} (x : Cl w c b p t s lv false) : Calls Try.prog 35 #[Ptr c] w fun e w' => e = .returned (.bool false) ∧ w' = w := by
  have c0 := blk_cell x.c0 (i := 0) rfl
  have c1 := blk_cell x.t0 (i := 6) rfl
  clear x
  go_enter Try.func35, Try.ntmps35
  go_wp2
  go_ret
  exact ⟨rfl, rfl⟩
theorem isStopped_any {w : World} {b : Nat} {p : Int} {t : Tn} {s : Int} {lv : Value} {en : Bool} (x : w.heap[b]? = some (.cells (tuC p t s lv en) 105 (0, 0))) : Calls Try.prog 37 #[Ptr b] w fun e w' => e = .returned (.bool t.stop) ∧ w' = w := by
  have c2 := blk_cell x (i := 2) rfl
  have c3 := blk_cell x (i := 3) rfl
  clear x
  obtain ⟨u, ov, fa⟩ := t
  unfold Tn.stop
  dsimp only at c2 c3 ⊢
  cases ov
  all_goals
    go_enter Try.func37, Try.ntmps37
    go_wp2
    go_ret
    exact ⟨rfl, rfl⟩
theorem fail_none {w : World} {v : Value} (x : NoneC w v) : Calls Try.prog 27 #[v] w fun e w' => e = .returned (.tuple #[]) ∧ w' = w := by
  have H := hideIt (isNone_yes x)
  clear x
  go_enter Try.func27, Try.ntmps27
  go_wp2_with (go_at_call 35; refine H.out.mono ?_; rintro e w' ⟨rfl, rfl⟩)
  go_end0
  exact ⟨rfl, rfl⟩
theorem Cl.put {w : World} {c b : Nat} {p : Int} {t : Tn} {s : Int} {lv : Value} {en : Bool} (x : Cl w c b p t s lv en) (i : Nat) (u : Value) {t' : Tn} {en' : Bool} (h : (tuC p t s lv en).setIfInBounds i u = tuC p t' s lv en') : Cl (w.setCell ⟨b, i, none⟩ u) c b p t' s lv en' := by
  have h1 := blk_put x.t0 i u
  rw [h] at h1
  exact ⟨((but_one w b i u).block c (blk_lt x.c0) (fun e => x.ne e)).trans x.c0, h1⟩
theorem fail_any {w : World} {c b : Nat} {p : Int} {t : Tn} {s : Int} {lv : Value} (x : Cl w c b p t s lv false) : Calls Try.prog 27 #[Ptr c] w fun e w' => e = .returned (.tuple #[]) ∧ Cl w' c b p t.fail s lv false ∧ But (One b) w w' := by
  have H := hideIt (isNone_no x)
  have c0 := blk_cell x.c0 (i := 0) rfl
  have c1 := blk_cell x.t0 (i := 3) rfl
  have s1 := blk_soft x.t0 3
  have HX := hideIt (And.intro (x.put 3 (.bool true) (t' := t.fail) (en' := false) rfl) (but_one w b 3 (.bool true)))
  clear x
  go_enter Try.func27, Try.ntmps27
  go_wp2_with (go_at_call 35; refine H.out.mono ?_; rintro e w' ⟨rfl, rfl⟩)
  go_end0
  exact ⟨rfl, HX.out⟩
theorem use_none {w : World} {v : Value} (x : NoneC w v) (n : Int) : Calls Try.prog 29 #[v, .int .i64 n] w fun e w' => e = .returned (.bool false) ∧ w' = w := by
  have H := hideIt (isNone_yes x)
  clear x
  go_enter Try.func29, Try.ntmps29
  go_wp2_with (go_at_call 35; refine H.out.mono ?_; rintro e w' ⟨rfl, rfl⟩)
  go_ret
  exact ⟨rfl, rfl⟩
set_option maxHeartbeats 1000000 in
theorem use_any {w : World} {c b : Nat} {p : Int} {t : Tn} {s : Int} {lv : Value} (x : Cl w c b p t s lv false) (hi : t.In s) (hs : s ≤ 1048576) (n : Int) : Calls Try.prog 29 #[Ptr c, .int .i64 n] w fun e w' => e = .returned (.bool (useA s t n)) ∧ Cl w' c b p (useT s t n) s lv false ∧ But (One b) w w' := by
  have H := hideIt (isNone_no x)
  have HS := hideIt (isStopped_any x.t0)
  have c0 := blk_cell x.c0 (i := 0) rfl
  have c1 := blk_cell x.t0 (i := 1) rfl
  have c2 := blk_cell x.t0 (i := 2) rfl
  have c4 := blk_cell x.t0 (i := 4) rfl
  have s1 := blk_soft x.t0 1
  have s2 := blk_soft x.t0 2
  have HX := hideIt x
  obtain ⟨i1, i2⟩ := hi
  clear x
  by_cases h1 : t.stop = true
  · have e1 : useA s t n = false := by unfold useA; rw [h1]; rfl
    have e2 : useT s t n = t := by unfold useT; rw [if_pos h1]
    rw [e1, e2]
    rw [h1] at HS
    clear h1 e1 e2
    go_enter Try.func29, Try.ntmps29
    go_wp2_with (first | (go_at_call 35; refine H.out.mono ?_; rintro e w' ⟨rfl, rfl⟩) | (go_at_call 37; refine HS.out.mono ?_; rintro e w' ⟨rfl, rfl⟩))
    go_ret
    exact ⟨rfl, HX.out, But.rfl⟩
  have h1 : t.stop = false := by simpa using h1
  by_cases h2 : n < 0
  · have e1 : useA s t n = false := by unfold useA; rw [h1, decide_eq_false (show ¬ 0 ≤ n by omega)]; rfl
    have e2 : useT s t n = t := by unfold useT; rw [h1, if_neg (by decide), if_pos h2]
    rw [e1, e2]
    rw [h1] at HS
    clear h1 e1 e2
    go_enter Try.func29, Try.ntmps29
    go_wp2_with (first | (go_at_call 35; refine H.out.mono ?_; rintro e w' ⟨rfl, rfl⟩) | (go_at_call 37; refine HS.out.mono ?_; rintro e w' ⟨rfl, rfl⟩))
    go_ret
    exact ⟨rfl, HX.out, But.rfl⟩
  by_cases h3 : s - t.u < n
  · have e1 : useA s t n = false := by unfold useA; rw [decide_eq_false (show ¬ n ≤ s - t.u by omega), Bool.and_false]
    have e2 : useT s t n = { t with ov := true } := by unfold useT; rw [h1, if_neg (by decide), if_neg h2, if_pos h3]
    rw [e1, e2]
    rw [h1] at HS
    clear h1 e1 e2
    go_enter Try.func29, Try.ntmps29
    go_wp2_with (first | (go_at_call 35; refine H.out.mono ?_; rintro e w' ⟨rfl, rfl⟩) | (go_at_call 37; refine HS.out.mono ?_; rintro e w' ⟨rfl, rfl⟩))
    go_region
    go_wp2
    go_ret
    exact ⟨rfl, (HX.out.after (But.drew But.rfl)).put 2 (.bool true) rfl, (But.drew But.rfl).trans (but_one _ b 2 _)⟩
  · have e1 : useA s t n = true := by unfold useA; rw [h1, decide_eq_true (show 0 ≤ n by omega), decide_eq_true (show n ≤ s - t.u by omega)]; rfl
    have e2 : useT s t n = { t with u := t.u + n } := by unfold useT; rw [h1, if_neg (by decide), if_neg h2, if_neg h3]
    rw [e1, e2]
    rw [h1] at HS
    clear h1 e1 e2
    go_enter Try.func29, Try.ntmps29
    go_wp2_with (first | (go_at_call 35; refine H.out.mono ?_; rintro e w' ⟨rfl, rfl⟩) | (go_at_call 37; refine HS.out.mono ?_; rintro e w' ⟨rfl, rfl⟩))
    go_region
    go_wp2
    go_ret
    exact ⟨rfl, (HX.out.after (But.drew But.rfl)).put 1 (.int .i64 (t.u + n)) rfl, (But.drew But.rfl).trans (but_one _ b 1 _)⟩
end Go.Proofs.Ytkjjjibglaffnaa
