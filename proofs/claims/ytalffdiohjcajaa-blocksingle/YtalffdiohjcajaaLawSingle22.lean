/-
  BlockSingle: a sector that is written to changes no other one.
-/
import Derived.Test.YtalffdiohjcajaaDbK
namespace Go.Proofs.Ytalffdiohjcajaa
open Go.RowKit
set_option maxRecDepth 8000
/-- The device, beside the book of what was written. -/
structure Sgl (w0 W : World) (d g m p : Nat) (x : Dv) (bk : Nat → Int) : Prop where
  so : Sole w0 W d g m x
  ru : Runs x 16
  ar : Arr W p 49 16 (fun i => .int .i64 (bk i))
  np : ¬ InD d g m p
  nw : w0.heap.size ≤ p
  ls : ∀ i, i < 16 → x.last i = allB (bk i)
  bd : ∀ i, 0 ≤ bk i ∧ bk i ≤ 255
theorem Sgl.after {w0 W W' : World} {d g m p : Nat} {x : Dv} {bk : Nat → Int} (h : Sgl w0 W d g m p x bk) (a : After W W') : Sgl w0 W' d g m p x bk :=
  { h with so := h.so.after a, ar := h.ar.after a }
theorem Sgl.wrote {w0 W W' : World} {d g m p : Nat} {x : Dv} {bk : Nat → Int} (h : Sgl w0 W d g m p x bk) {k : Nat} (hk : k < 16) {v : Int} {y : Nat} (hy : (y : Int) = v % 256) (s : Sole w0 W' d g m (x.put k (allB v))) (b : But (InD d g m) W W') :
    W'.cell? ⟨p, k, none⟩ = some (.int .i64 (bk k)) ∧ W'.frozen? ⟨p, k, none⟩ = false ∧ Sgl w0 (W'.setCell ⟨p, k, none⟩ (.int .i64 y)) d g m p (x.put k (allB v)) (fun i => if i = k then (y : Int) else bk i) := by
  have ar := h.ar.but b h.np
  have hb := but_one W' p k (.int .i64 y)
  refine ⟨ar.cell hk, ar.soft k, ⟨⟨s.dv.but hb (fun i hi e => h.np (by rw [← (show i = p from e)]; exact hi)), s.af.then hb (fun i hi e => by have e : i = p := e; have := h.nw; omega), s.new⟩, h.ru.put _ _, ?_, h.np, h.nw, fun i hi => ?_, fun i => ?_⟩⟩
  · have e := ar.put hk (.int .i64 y)
    have e2 : (fun i => if i = k then Value.int .i64 (y : Int) else Value.int .i64 (bk i)) = fun i => Value.int .i64 (if i = k then (y : Int) else bk i) := by
      funext i
      split <;> rfl
    rw [e2] at e
    exact e
  · rw [put_last]
    by_cases e : i = k
    · rw [if_pos e, if_pos e, hy, allB_mod]
    · rw [if_neg e, if_neg e]
      exact h.ls i hi
  · show 0 ≤ (if i = k then (y : Int) else bk i) ∧ (if i = k then (y : Int) else bk i) ≤ 255
    by_cases e : i = k
    · rw [if_pos e]; omega
    · rw [if_neg e]; exact h.bd i
set_option maxHeartbeats 2000000 in
theorem law_single22 (w : World) (a : Option Addr) (n c : Nat) (zs : List Int) (hz : IRow w a n zs) :
    Calls Try.prog 6 #[.slice a n c] w fun e w' => e = .returned (.bool true) ∧ After w w' := by
  have HA := hideIt (awakeB_any w)
  have HZ := hideIt hz
  have HN := hideIt (fun W => sole_new W 16 (by omega) (by omega))
  clear hz
  go_enter Try.func6, Try.ntmps6
  go_wp2_with fail
  refine HA.out.mono ?_
  rintro e w1 ⟨rfl, a1⟩
  have A1 := hideIt a1
  clear a1 HA
  go_wp2_with fail
  refine (HN.out w1).mono ?_
  rintro e w2 ⟨d, g, m, rfl, s2⟩
  have S2 := hideIt s2
  clear s2 HN
  go_wp2_with fail
  have a3 : After w2 (w2.alloc (.cells (List.replicate 16 (.int .i64 0)).toArray 49)) := After.rfl.alloc _
  have hlt := S2.out.dv.lt
  have X0 := hideIt (show Sgl w1 (w2.alloc (.cells (List.replicate 16 (.int .i64 0)).toArray 49)) d g m w2.heap.size (Dv.new 16) (fun _ => 0) from
    ⟨S2.out.after a3, Runs.new 16, arr_rep 16 (.int .i64 0) (heap_alloc_new w2 _), fun e => absurd (hlt _ e) (Nat.lt_irrefl _), S2.out.af.size, fun _ _ => rfl, fun _ => by omega⟩)
  clear a3 hlt
  go_loopw [6] (fun iv wr => ∃ (j : Nat) (x : Dv) (bk : Nat → Int), j ≤ n ∧ j ≤ 100 ∧ iv = .int .i64 j ∧ Sgl w1 wr d g m w2.heap.size x bk) (fun iv _ => 100 - (intOf iv).toNat)
  case atStart => exact ⟨0, _, _, Nat.zero_le _, Nat.zero_le _, rfl, X0.out⟩
  case round =>
    obtain ⟨j, x, bk, hj, hj2, rfl, sg⟩ := hrel
    clear X0
    by_cases hgo : j < n ∧ j < 100
    · obtain ⟨hjn, hj100⟩ := hgo
      have i1 : (j : Int) < (n : Int) := by omega
      have i2 : (j : Int) < 100 := by omega
      obtain ⟨bb, off, rfl, hb, d0⟩ := HZ.out.2 j hjn
      have hb1 := Nat.lt_of_lt_of_le hb A1.out.size
      have HC := hideIt (fun V (a : After w1 V) => (a.cell hb1 (off + j)).trans ((A1.out.cell hb (off + j)).trans d0))
      have e1 := HC.out wr sg.so.af
      clear d0 hb hb1
      generalize zs.getD j 0 = z at *
      obtain ⟨k, hk, ek, hkz⟩ := and15D z
      obtain ⟨y, hy, ey, hyz⟩ := and255D (z / 16)
      clear hkz
      have HX := hideIt (And.intro sg (And.intro hyz (And.intro hy hk)))
      clear sg hyz
      have k16 : (k : Int) < 16 := by omega
      have k0 : (0 : Int) ≤ (k : Int) := by omega
      go_wp2_with fail
      refine (all_any wr _).mono ?_
      rintro e w4 ⟨q, rfl, r4, n4, a4⟩
      have X4 := hideIt (And.intro r4 (And.intro (HX.out.1.after a4) (show q ≠ d by have := HX.out.1.so.dv.lt d (.inl rfl); omega)))
      clear r4 n4 a4 e1
      go_wp2_with fail
      refine (X4.out.2.1.so.writes HX.out.1.ru hk q 64 _ X4.out.1 X4.out.2.2).mono ?_
      rintro e w5 ⟨rfl, s5, b5⟩
      obtain ⟨cp, fp, sg6⟩ := X4.out.2.1.wrote HX.out.2.2.2 HX.out.2.1 s5 b5
      have e5 := HC.out w5 s5.af
      have X6 := hideIt sg6
      clear s5 b5 sg6 X4
      go_wp2_with fail
      generalize hbk : (fun i => if i = k then (y : Int) else bk i) = bk' at *
      generalize hx' : x.put k (allB (z / 16)) = x' at *
      generalize w5.setCell ⟨w2.heap.size, k, none⟩ (.int .i64 y) = w6 at *
      clear hbk hx' cp fp e5 HX
      go_loopw [8] (fun kv wq => ∃ i : Nat, i ≤ 16 ∧ kv = .int .i64 i ∧ Sgl w1 wq d g m w2.heap.size x' bk') (fun kv _ => 16 - (intOf kv).toNat)
      case atStart => exact ⟨0, by omega, rfl, X6.out⟩
      case round =>
        obtain ⟨i, hi, rfl, sg⟩ := hrel
        clear X6
        by_cases hi16 : i < 16
        · have i3 : (i : Int) < 16 := by omega
          have i4 : (0 : Int) ≤ (i : Int) := by omega
          have HR := hideIt (sg.so.reads sg.ru hi16)
          have HX := hideIt sg
          clear sg
          go_wp2_with fail
          refine HR.out.mono ?_
          rintro e w7 ⟨q7, rfl, k7, n7, a7⟩
          have cb := (HX.out.after a7).ar.cell hi16
          have X7 := hideIt (And.intro (HX.out.after a7) k7)
          clear k7 n7 a7 HR
          go_wp2_with fail
          refine (all_any w7 _).mono ?_
          rintro e w8 ⟨q8, rfl, r8, n8, a8⟩
          have X8 := hideIt (And.intro (X7.out.1.after a8) (And.intro (by have := X7.out.2.after a8; rw [X7.out.1.ls i hi16] at this; exact this : SecAt w8 q7 (allB (bk' i))) r8))
          clear r8 n8 a8 X7
          go_wp2_with fail
          refine (eqB_same _ _ 64 _ _ _ w8 (X8.out.2.1.row (allB_sec _)) X8.out.2.2 (by omega)).mono ?_
          rintro e w9 ⟨rfl, a9⟩
          have X9 := hideIt (X8.out.1.after a9)
          clear a9 X8
          go_wp2_with fail
          exact ⟨⟨i + 1, by omega, by simp, X9.out⟩, by simp [intOf]; omega⟩
        · obtain rfl : i = 16 := by omega
          have HX := hideIt sg
          clear sg
          go_wp2_with fail
          exact ⟨⟨j + 1, x', bk', by omega, by omega, by simp, HX.out⟩, by simp [intOf]; omega⟩
    · have HX := hideIt sg
      clear sg
      by_cases hjn : j < n
      · have i1 : (j : Int) < (n : Int) := by omega
        have i2 : ¬ (j : Int) < 100 := by omega
        go_wp2_with fail
        go_ret
        exact ⟨rfl, A1.out.trans HX.out.so.af⟩
      · have i1 : ¬ (j : Int) < (n : Int) := by omega
        go_wp2_with fail
        go_ret
        exact ⟨rfl, A1.out.trans HX.out.so.af⟩
end Go.Proofs.Ytalffdiohjcajaa
