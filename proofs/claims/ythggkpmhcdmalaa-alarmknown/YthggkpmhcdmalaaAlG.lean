/-
  The statements' helpers: step, works, spec, do.
-/
import Derived.Test.YthggkpmhcdmalaaAlF
import Derived.Test.YthggkpmhcdmalaaAlT
import Derived.Test.YthggkpmhcdmalaaAlQ
namespace Go.Proofs.Ythggkpmhcdmalaa
open Go.RowKit
set_option maxRecDepth 8000
/-- What holds of an event list: its own row, apart from the alarm. -/
theorem st_few (s : Sp) (x : As) (a : Bool) : (stE s x a).length ≤ 2 := by
  unfold stE
  rw [List.length_append]
  have := evs_len (wtE x)
  have := evs_len (mvE s (wtS x) a)
  omega
theorem step18 {w : World} {p : Nat} {s : Sp} {x : As} (h : Al w p s x) (act : Bool) (ys : List Int) (a : Option Addr) (n c : Nat) (hr : IRow w a n ys) (hfar : ∀ y, a = some y → 0 < n → y.block ≠ p) (q1 q2 q3 : Int) (hE : stE s x act = ys) (h1 : (stS s x act).ph = q1) (h2 : (stS s x act).pr = q2) (h3 : (stS s x act).si = q3) :
    Calls Try.prog 23 #[Ptr p, .bool act, .int .i64 q1, .int .i64 q2, .int .i64 q3, .slice a n c] w fun e w' => e = .returned (.bool true) ∧ Al w' p s (stS s x act) ∧ But (One p) w w' := by
  subst hE h1 h2 h3
  obtain rfl : n = (stE s x act).length := hr.1.symm
  have HS := hideIt (step_any h act)
  have HT := hideIt (fun V (y : Al V p s (stS s x act)) => state_any y)
  have hrow : ∀ V, But (One p) w V → IRow V a (stE s x act).length (stE s x act) := by
    intro V b
    by_cases h0 : 0 < (stE s x act).length
    · exact hr.but b (fun y hy t => hfar y hy h0 t)
    · exact ⟨hr.1, fun i hi => absurd hi (by omega)⟩
  have HR := hideIt hrow
  have HF := hideIt (st_few s x act)
  clear h hr hfar hrow
  generalize stE s x act = ev at *
  generalize stS s x act = x' at *
  go_enter Try.func23, Try.ntmps23
  go_wp2_with fail
  refine HS.out.mono ?_
  rintro e w1 ⟨v, rfl, own, x1, b1⟩
  obtain ⟨a1, c1, rfl, ir, -, -, -⟩ := own_irow own
  have X1 := hideIt (And.intro x1 (And.intro b1 ir))
  clear own x1 b1 ir HS
  go_wp2_with fail
  refine (HT.out _ X1.out.1).mono ?_
  rintro e w2 ⟨rfl, a2⟩
  have h4 := heap_alloc_new w2 (.cells x'.cs 25)
  obtain ⟨w3, hw3⟩ : ∃ w3, w3 = w2.alloc (.cells x'.cs 25) := ⟨_, rfl⟩
  rw [← hw3] at h4
  have A3 := hideIt (show After w1 w3 by rw [hw3]; exact a2.alloc _)
  have H4 := hideIt (fun V (a : After w3 V) => state_at (show w3.heap[w2.heap.size]? = some (.cells x'.cs 25 (0, 0)) from h4) a)
  have HQ := hideIt (eqInts_any w3 a1 a ev.length ev.length c1 c ev ev (X1.out.2.2.after A3.out) (HR.out _ (one_new X1.out.2.1 A3.out)) (by have := HF.out; omega))
  rw [show decide (ev = ev) = true from decide_eq_true rfl] at HQ
  have r1 : (x'.ph == x'.ph) = true := by simp
  have r2 : (x'.pr == x'.pr) = true := by simp
  have r3 : (x'.si == x'.si) = true := by simp
  clear a2 h4 HT
  go_wp2_with fail
  rw [← hw3]
  clear hw3
  refine HQ.out.mono ?_
  rintro e w4 ⟨rfl, a4⟩
  obtain ⟨p0, p1, p2, p3⟩ := H4.out _ a4
  have A4 := hideIt (A3.out.trans a4)
  clear a4 A3 H4 HQ
  go_wp2
  go_ret
  exact ⟨rfl, X1.out.1.after A4.out, one_new X1.out.2.1 A4.out⟩
/-- One that was made behind w, and how it stands. -/
structure Wk (w W : World) (p : Nat) (s : Sp) (x : As) : Prop where
  al : Al W p s x
  aft : After w W
  wp : w.heap.size ≤ p
theorem Wk.after {w W W' : World} {p : Nat} {s : Sp} {x : As} (h : Wk w W p s x) (a : After W W') : Wk w W' p s x := ⟨h.al.after a, h.aft.trans a, h.wp⟩
theorem Wk.put {w W W' : World} {p : Nat} {s : Sp} {x x' : As} (h : Wk w W p s x) (y : Al W' p s x') (b : But (One p) W W') : Wk w W' p s x' :=
  ⟨y, h.aft.then b (fun i hi t => by have : i = p := t; have := h.wp; omega), h.wp⟩
theorem Wk.lit {w W : World} {p : Nat} {s : Sp} {x : As} (X : Wk w W p s x) (act : Bool) (q1 q2 q3 : Int) (x' : As) (cs : Array Value) (ys : List Int) (k : Nat) (hz : cs.toList = i64s ys) (hk : k = ys.length) (hE : stE s x act = ys) (hS : stS s x act = x') (h1 : x'.ph = q1) (h2 : x'.pr = q2) (h3 : x'.si = q3) :
    Calls Try.prog 23 #[Ptr p, .bool act, .int .i64 q1, .int .i64 q2, .int .i64 q3, .slice (some ⟨W.heap.size, 0, none⟩) k k] (W.alloc (.cells cs 3)) fun e w' => e = .returned (.bool true) ∧ Wk w w' p s x' := by
  subst hS
  have X1 := X.after (After.rfl.alloc (.cells cs 3))
  refine (step18 X1.al act ys _ k k (lit_irow (heap_alloc_new W _) hz hk) (fun y hy _ e => ?_) q1 q2 q3 hE h1 h2 h3).mono ?_
  · cases hy
    have := X.al.lt
    have e : W.heap.size = p := e
    omega
  · rintro e w2 ⟨rfl, y, b⟩
    exact ⟨rfl, X1.put y b⟩
theorem Wk.nil {w W : World} {p : Nat} {s : Sp} {x : As} (X : Wk w W p s x) (act : Bool) (q1 q2 q3 : Int) (x' : As) (hE : stE s x act = []) (hS : stS s x act = x') (h1 : x'.ph = q1) (h2 : x'.pr = q2) (h3 : x'.si = q3) :
    Calls Try.prog 23 #[Ptr p, .bool act, .int .i64 q1, .int .i64 q2, .int .i64 q3, .slice none 0 0] W fun e w' => e = .returned (.bool true) ∧ Wk w w' p s x' := by
  subst hS
  refine (step18 X.al act [] none 0 0 (IRow.nil W none) (fun y hy => by cases hy) q1 q2 q3 hE h1 h2 h3).mono ?_
  rintro e w2 ⟨rfl, y, b⟩
  exact ⟨rfl, X.put y b⟩
theorem Wk.ack {w W : World} {p : Nat} {s : Sp} {x : As} (X : Wk w W p s x) (x' : As) (E : Int) (hE : akE x = E) (hS : akS x = x') : Calls Try.prog 21 #[Ptr p] W fun e w' => e = .returned (.int .i64 E) ∧ Wk w w' p s x' := by
  subst hS hE
  exact (ack_any X.al).mono (fun e w' h => ⟨h.1, X.put h.2.1 h.2.2⟩)
theorem Wk.pause {w W : World} {p : Nat} {s : Sp} {x : As} (X : Wk w W p s x) (n : Int) (x' : As) (E : Int) (hE : psE n = E) (hS : psS x n = x') : Calls Try.prog 22 #[Ptr p, .int .i64 n] W fun e w' => e = .returned (.int .i64 E) ∧ Wk w w' p s x' := by
  subst hS hE
  exact (pause_any X.al n).mono (fun e w' h => ⟨h.1, X.put h.2.1 h.2.2⟩)
theorem Wk.state {w W : World} {p : Nat} {s : Sp} {x : As} (X : Wk w W p s x) : Calls Try.prog 17 #[Ptr p] W fun e w' => e = .returned x.v ∧ Wk w w' p s x :=
  (state_any X.al).mono (fun _e _w' h => ⟨h.1, X.after h.2⟩)
theorem wk_new (w : World) (s : Sp) (hs : s.May) : Calls Try.prog 11 #[s.v] w fun e w' => ∃ p, e = .returned (.tuple #[Ptr p, .int .i64 0]) ∧ Wk w w' p s As.zero :=
  (new_ok w s hs).mono (fun e w' h => by
    obtain ⟨p, h1, h2, h3, h4⟩ := h
    exact ⟨p, h1, h2, h4, h3⟩)
set_option maxHeartbeats 2000000 in
theorem works_any (w : World) : Calls Try.prog 14 #[] w fun e w' => e = .returned (.bool true) ∧ After w w' := by
  have HN := hideIt (wk_new w ⟨1, true, 2⟩ (by decide))
  go_enter Try.func14, Try.ntmps14
  go_wp2_with fail
  refine HN.out.mono ?_
  rintro e w0 ⟨p, rfl, x0⟩
  have X := hideIt x0
  clear x0 HN
  have HR := hideIt (X.out.lit true 1 1 0 ⟨1, 1, 0, 0⟩ #[.int .i64 1] [1] 1 rfl rfl (by decide) rfl rfl rfl rfl)
  go_wp2_with fail
  refine HR.out.mono ?_
  rintro e v0 ⟨rfl, x0⟩
  have X := hideIt x0
  clear x0 HR
  have HR := hideIt (X.out.nil true 1 1 1 ⟨1, 1, 1, 0⟩ (by decide) rfl rfl rfl rfl)
  go_wp2_with fail
  refine HR.out.mono ?_
  rintro e v1 ⟨rfl, x1⟩
  have X := hideIt x1
  clear x1 HR
  have HR := hideIt (X.out.lit true 1 2 0 ⟨1, 2, 0, 0⟩ #[.int .i64 3] [3] 1 rfl rfl (by decide) rfl rfl rfl rfl)
  go_wp2_with fail
  refine HR.out.mono ?_
  rintro e v2 ⟨rfl, x2⟩
  have X := hideIt x2
  clear x2 HR
  have HR := hideIt (X.out.lit false 3 2 0 ⟨3, 2, 0, 0⟩ #[.int .i64 2] [2] 1 rfl rfl (by decide) rfl rfl rfl rfl)
  go_wp2_with fail
  refine HR.out.mono ?_
  rintro e v3 ⟨rfl, x3⟩
  have X := hideIt x3
  clear x3 HR
  have HR := hideIt (X.out.ack ⟨0, 0, 0, 0⟩ 0 (by decide) rfl)
  go_wp2_with fail
  refine HR.out.mono ?_
  rintro e v4 ⟨rfl, x4⟩
  have X := hideIt x4
  clear x4 HR
  have HR := hideIt (X.out.nil false 0 0 0 ⟨0, 0, 0, 0⟩ (by decide) rfl rfl rfl rfl)
  go_wp2_with fail
  refine HR.out.mono ?_
  rintro e v5 ⟨rfl, x5⟩
  have X := hideIt x5
  clear x5 HR
  have HR := hideIt (X.out.lit true 1 1 0 ⟨1, 1, 0, 0⟩ #[.int .i64 1] [1] 1 rfl rfl (by decide) rfl rfl rfl rfl)
  go_wp2_with fail
  refine HR.out.mono ?_
  rintro e v6 ⟨rfl, x6⟩
  have X := hideIt x6
  clear x6 HR
  have HR := hideIt (X.out.ack ⟨2, 1, 0, 0⟩ 0 (by decide) rfl)
  go_wp2_with fail
  refine HR.out.mono ?_
  rintro e v7 ⟨rfl, x7⟩
  have X := hideIt x7
  clear x7 HR
  have HR := hideIt (X.out.nil true 2 1 0 ⟨2, 1, 0, 0⟩ (by decide) rfl rfl rfl rfl)
  go_wp2_with fail
  refine HR.out.mono ?_
  rintro e v8 ⟨rfl, x8⟩
  have X := hideIt x8
  clear x8 HR
  have HR := hideIt (X.out.lit false 0 0 0 ⟨0, 0, 0, 0⟩ #[.int .i64 2] [2] 1 rfl rfl (by decide) rfl rfl rfl rfl)
  go_wp2_with fail
  refine HR.out.mono ?_
  rintro e v9 ⟨rfl, x9⟩
  have X := hideIt x9
  clear x9 HR
  have HR := hideIt (X.out.ack ⟨0, 0, 0, 0⟩ 70 (by decide) rfl)
  go_wp2_with fail
  refine HR.out.mono ?_
  rintro e v10 ⟨rfl, x10⟩
  have X := hideIt x10
  clear x10 HR
  have HR := hideIt (X.out.state)
  go_wp2_with fail
  refine HR.out.mono ?_
  rintro e v20 ⟨rfl, x20⟩
  have X := hideIt x20
  clear x20 HR
  go_wp2
  go_ret
  exact ⟨rfl, X.out.aft⟩
end Go.Proofs.Ythggkpmhcdmalaa
