/-
  Lists of bytes that are written out, cut, or listed: by single operations.
-/
import Derived.Test.YtmdbpoknehafaaaOps
namespace Go.Proofs.Ytmdbpoknehafaaa
open Go.RowKit
theorem enter_of {f : Nat} {fn : Func} (hf : Try.prog.funcs[f]? = some fn) (hname : (fn.name == "runtime.NumGoroutine") = false) (hb0 : fn.body.isSome = true) (args : Array Value) (w : World) : (callFunc f args).run Try.prog w = .ok (.enter f args) w := by
  obtain ⟨c, hb⟩ := Option.isSome_iff_exists.1 hb0
  have hn : fn.name ≠ "runtime.NumGoroutine" := by simpa using hname
  simp [callFunc, go_sem, hf, hn, hb]
theorem row_b {W : World} {a : Option Addr} {n c : Nat} {z : List Int} (h : Row W a n z) (ha : a = none → n = 0 ∧ c = 0) (hc : n ≤ c) (hn : n ≤ 140737488355328) : RowB W (.slice a n c) z := by
  have e := h.1
  subst e
  exact ⟨a, c, rfl, h, ha, hc, hn⟩
theorem RowB.got {W : World} {v : Value} {z : List Int} (h : RowB W v z) (hz : 0 < z.length) : ∃ b off c, v = .slice (some ⟨b, off, none⟩) z.length c ∧ Row W (some ⟨b, off, none⟩) z.length z ∧ z.length ≤ c := by
  obtain ⟨a, c, rfl, r, _, hc, _⟩ := h
  obtain ⟨b, off, e, _⟩ := r.2.2 0 hz
  subst e
  exact ⟨b, off, c, rfl, r, hc⟩
theorem run_bytes (w : World) (n : Nat) (parts : Array (Nat × Value)) (zs : List Int) (cells : Array Value) (hn : zs.length = n) (h0 : 0 < n) (h1 : n ≤ 100) (hb : Bs zs) (hc : cells.toList = u8s zs)
    (h : Instr.fill (fun i => some (i * 1, 1)) ((Array.range (n * 1)).map ((Value.int .u8 0).cells[· % (Value.int .u8 0).cells.size]!)) parts.toList = some cells) :
    ∃ v w', (Instr.buildSlice 27 n parts).run Try.prog w = .ok v w' ∧ RowB w' v zs ∧ After w w' := by
  obtain ⟨i0, hi, hz0, hz1, hz2⟩ := info_parts Try.info5
  have hr := Go.run_buildSlice (P := Try.prog) w 27 5 n parts cells i0 (.int .u8 0) Try.underlying27 hi hz0 (by rw [hz1]; omega) (by rw [hz1]; omega) (by rw [hz1]; exact h)
  exact ⟨_, _, hr, row_b (lit_row w zs cells n hc hn hb) (fun e => by cases e) (Nat.le_refl _) (by omega), After.rfl.alloc _⟩
/-- A list of lists, as a value. -/
def LstB (w : World) (v : Value) (fs : List (List Int)) : Prop := ∃ a c, v = .slice a fs.length c ∧ Lst w a fs.length fs
theorem LstB.after {w w' : World} {v : Value} {fs : List (List Int)} (h : LstB w v fs) (b : After w w') : LstB w' v fs := by
  obtain ⟨a, c, e, l⟩ := h
  exact ⟨a, c, e, l.after b⟩
theorem lit_lst {W : World} {B : Nat} {cs : Array Value} {fs : List (List Int)} (h : W.heap[B]? = some (.cells cs 27 (0, 0))) (e : Each (RowB W) cs.toList fs) : Lst W (some ⟨B, 0, none⟩) fs.length fs := by
  refine ⟨rfl, fun i hi => ?_⟩
  obtain ⟨x, e1, e2⟩ := e.at hi
  refine ⟨B, 0, x, rfl, (Array.getElem?_eq_some_iff.1 h).1, ?_, e2⟩
  rw [Nat.zero_add, cell_of_row W B i cs 27 (0, 0) h]
  rw [← Array.getElem?_toList]; exact e1
theorem Each.cons {E : Value → List Int → Prop} {x : Value} {f : List Int} {xs : List Value} {fs : List (List Int)} (h : E x f) (k : Each E xs fs) : Each E (x :: xs) (f :: fs) := Each.append (Each.one h) k
theorem run_lists (w : World) (n : Nat) (parts : Array (Nat × Value)) (fs : List (List Int)) (cells : Array Value) (hn : fs.length = n) (h0 : 0 < n) (h1 : n ≤ 100) (he : Each (RowB w) cells.toList fs)
    (h : Instr.fill (fun i => some (i * 1, 1)) ((Array.range (n * 1)).map ((Value.slice none 0 0).cells[· % (Value.slice none 0 0).cells.size]!)) parts.toList = some cells) :
    ∃ v w', (Instr.buildSlice 22 n parts).run Try.prog w = .ok v w' ∧ LstB w' v fs ∧ After w w' := by
  obtain ⟨i0, hi, hz0, hz1, hz2⟩ := info_parts Try.info27
  have hr := Go.run_buildSlice (P := Try.prog) w 22 27 n parts cells i0 (.slice none 0 0) Try.underlying22 hi hz0 (by rw [hz1]; omega) (by rw [hz1]; omega) (by rw [hz1]; exact h)
  have hA : After w (w.alloc (.cells cells 27)) := After.rfl.alloc _
  refine ⟨_, _, hr, ⟨_, _, by rw [hn], ?_⟩, hA⟩
  exact lit_lst (heap_alloc_new w _) (he.mono (fun x f e => e.after hA))
theorem run_noughts (w : World) (n : Nat) (hn : n ≤ 65536) : ∃ v w', (Instr.makeSlice 27 (.int .i64 (n : Int)) (.int .i64 (n : Int))).run Try.prog w = .ok v w' ∧ RowB w' v (nils n) ∧ After w w' :=
  ⟨_, _, make_run n hn w, row_b (mc_row (heap_alloc_new w _)) (fun e => by cases e) (Nat.le_refl _) (by omega), After.rfl.alloc _⟩
theorem cut_b {w : World} {b off c l h : Nat} {z : List Int} (r : Row w (some ⟨b, off, none⟩) z.length z) (hc : z.length ≤ c) (hlh : l ≤ h) (hz : h ≤ z.length) (hm : z.length ≤ 140737488355328) : RowB w (.slice (if c = l then some ⟨b, off, none⟩ else some ⟨b, off + l, none⟩) (h - l) (c - l)) ((z.drop l).take (h - l)) := by
  have r1 := (row_cut r (by omega) hc (k := l)).take (k := h - l) (by omega)
  refine row_b r1 (fun e => (cut_some e).elim) (by omega) (by omega)
theorem run_cut (w : World) (v : Value) (z : List Int) (l h : Nat) (lo hi : Option Value) (hv : RowB w v z) (h0 : 0 < z.length) (hlh : l ≤ h) (hz : h ≤ z.length) (hm : z.length ≤ 140737488355328) (hlo : (lo = none ∧ l = 0) ∨ lo = some (.int .i64 (l : Int))) (hhi : (hi = none ∧ h = z.length) ∨ hi = some (.int .i64 (h : Int))) :
    ∃ v', (Instr.sliceAt 27 v lo hi none).run Try.prog w = .ok v' w ∧ RowB w v' ((z.drop l).take (h - l)) := by
  obtain ⟨b, off, c, rfl, r, hc⟩ := hv.got h0
  have hu : Try.prog.underlying 27 = some (.slice (Try.prog.elem 27)) := by kernel_rfl
  have hcut := cut_b r hc hlh hz hm
  generalize z.length = n at *
  have q1 : (h : Int) ≤ (c : Int) := by omega
  have q2 : (l : Int) ≤ (h : Int) := by omega
  have q3 : (l : Int) ≤ (c : Int) := by omega
  have q4 : (n : Int) ≤ (c : Int) := by omega
  have q5 : (0 : Int) ≤ (l : Int) := by omega
  have q6 : (0 : Int) ≤ (h : Int) := by omega
  rcases hlo with ⟨rfl, rfl⟩ | rfl
  · rcases hhi with ⟨rfl, rfl⟩ | rfl
    · refine ⟨_, ?_, hcut⟩
      rw [run_sliceAt_slice _ 27 _ _ _ _ hu]
      simp [go_sem]
    · refine ⟨_, ?_, hcut⟩
      rw [run_sliceAt_slice _ 27 _ _ _ _ hu]
      simp [go_sem, q1, q6]
  · rcases hhi with ⟨rfl, rfl⟩ | rfl
    · refine ⟨_, ?_, hcut⟩
      rw [run_sliceAt_slice _ 27 _ _ _ _ hu]
      simp [go_sem, q2, q5]
    · refine ⟨_, ?_, hcut⟩
      rw [run_sliceAt_slice _ 27 _ _ _ _ hu]
      simp [go_sem, q1, q2, q5]
end Go.Proofs.Ytmdbpoknehafaaa
