/-
  Mean, New and Push of the document's mean.
-/
import Derived.Test.YtgapnimicaopcaaGreatAvB
import Derived.Deep.AppendLies
import Derived.Deep.RegionLaw
import Derived.Deep.QuietTactic
import Derived.BigQuiet
namespace Go.Proofs.YtgapnimicaopcaaGreat.L10
open Go.RowKit
set_option maxRecDepth 8000
/-- What the document reckons of a sum. -/
theorem near_doc (s : Int) (k : Nat) : (s < 0 ∧ near s k = -(((-2) * s + (k : Int)) / (2 * (k : Int)))) ∨ (¬ s < 0 ∧ near s k = (2 * s + (k : Int)) / (2 * (k : Int))) := by
  unfold near
  by_cases h : s < 0
  · left
    rw [if_pos h]
    exact ⟨h, rfl⟩
  · right
    rw [if_neg h]
    exact ⟨h, rfl⟩
set_option maxHeartbeats 2000000 in
theorem refMean_any (w : World) (a : Option Addr) (k c : Nat) (xs : List Int) (hr : IRow w a k xs) (hf : Fit xs) (hk : 0 < k) (hk2 : k ≤ 15) :
    Calls Tryz.prog 60 #[.slice a k c] w fun e w' => e = .returned (.int .i64 (meanZ xs)) ∧ ∃ m, w' = w.drewN m := by
  have hlen := hr.1
  obtain ⟨b, off, rfl, hb, -⟩ := hr.2 0 hk
  have HC := hideIt (show ∀ W, After w W → ∀ i, i < k → W.cell? ⟨b, off + i, none⟩ = some (.int .i64 (xs.getD i 0)) from fun W h i hi => by
    obtain ⟨b', off', e, hb', hc⟩ := hr.2 i hi
    cases e
    exact (h.cell hb' _).trans hc)
  unfold meanZ
  rw [hlen]
  have hnb := near_between (s := sumZ xs) (lo := -2147483647) (hi := 2147483647) hk (by have := sumZ_lo (fun y hy => (hf y hy).1); rw [hlen] at this; exact this) (by have := sumZ_hi (fun y hy => (hf y hy).2); rw [hlen] at this; exact this)
  have HD := hideIt (And.intro (near_doc (sumZ xs) k) hnb)
  generalize near (sumZ xs) k = M at *
  have HB := hideIt (show ∀ i, -32212254705 ≤ sumZ (xs.take i) ∧ sumZ (xs.take i) ≤ 32212254705 from fun i => (hf.take i).sum (by rw [List.length_take]; omega))
  have HF := hideIt (show ∀ i, i < k → -2147483647 ≤ xs.getD i 0 ∧ xs.getD i 0 ≤ 2147483647 from fun i hi => hf _ (by rw [getD_at (by omega)]; exact List.getElem_mem _))
  have HS := hideIt (show ∀ i, i < k → sumZ (xs.take (i + 1)) = sumZ (xs.take i) + xs.getD i 0 from fun i hi => sum_succ (by omega))
  have HT := hideIt (show xs.take k = xs from List.take_of_length_le (by omega))
  have k1 : (k : Int) ≤ 15 := by omega
  have k2 : (0 : Int) < (k : Int) := by omega
  clear hr hf hnb hlen
  go_enter Tryz.func60, Tryz.ntmps60
  go_wp2_with fail
  go_loopw [3, 4] (fun sm i wr => ∃ j : Nat, j ≤ k ∧ i = .int .i64 j ∧ sm = .int .i64 (sumZ (xs.take j)) ∧ wr = w) (fun _ i _ => k - (intOf i).toNat)
  case atStart => exact ⟨0, Nat.zero_le _, rfl, rfl, rfl⟩
  case round =>
    obtain ⟨j, hj, rfl, rfl, rfl⟩ := hrel
    by_cases hjk : j < k
    · have i1 : (j : Int) < (k : Int) := by omega
      have e1 := HC.out _ After.rfl j hjk
      have b1 := HB.out j
      have b2 := HF.out j hjk
      have HS2 := hideIt (HS.out j hjk)
      generalize xs.getD j 0 = y at *
      generalize sumZ (xs.take j) = S at *
      go_wp2
      go_roundw
      case rel => exact ⟨j + 1, by omega, by go_num, by rw [HS2.out], by first | rfl | trivial⟩
      case measure => simp [intOf]; omega
    · obtain rfl : j = k := by omega
      have i1 : ¬ (j : Int) < (j : Int) := by omega
      rw [HT.out]
      have b1 := HB.out j
      rw [HT.out] at b1
      have hd := HD.out
      generalize sumZ xs = S at *
      obtain ⟨hd, hm⟩ := hd
      have HMM := hideIt hm
      clear hm HD
      have j2 : ¬ 2 * (j : Int) = 0 := by omega
      rcases hd with ⟨h1, h2⟩ | ⟨h1, h2⟩
      all_goals
        have H2 := hideIt h2
        clear h2
        go_wp2
        go_ret
        refine ⟨ret_int ?_, 0, rfl⟩
        have h2 := H2.out
        have hm := HMM.out
      · generalize (-2 * S + (j : Int)) / (2 * (j : Int)) = Q at *
        unfold wrap64
        omega
      · exact h2.symm
/-- A block, and those from another on. -/
def With (g B : Nat) : Nat → Prop := fun k => k = g ∨ B ≤ k
/-- The document's mean lies at g: all numbers L, in a block from B on. -/
structure RaX (w : World) (g B n : Nat) (L : List Int) (v : Value) : Prop where
  at0 : w.heap[g]? = some (.cells #[.int .i64 (n : Int), v] 126 (0, 0))
  own : OInts w B v L
  hB : g < B
  pos : 0 < n
  hn : n ≤ 15
  fit : Fit L
def Ra (w : World) (g B n : Nat) (L : List Int) : Prop := ∃ v, RaX w g B n L v
theorem Ra.lt {w : World} {g B n : Nat} {L : List Int} (x : Ra w g B n L) : g < w.heap.size := by
  obtain ⟨v, x⟩ := x
  exact blk_lt x.at0
theorem Ra.but {S : Nat → Prop} {w w' : World} {g B n : Nat} {L : List Int} (x : Ra w g B n L) (b : But S w w') (hs : ∀ k, With g B k → ¬ S k) : Ra w' g B n L := by
  obtain ⟨v, x⟩ := x
  exact ⟨v, { x with at0 := (b.block g (blk_lt x.at0) (hs g (.inl rfl))).trans x.at0, own := own_but x.own b (fun k hk => hs k (.inr (own_lt x.own hk).1)) }⟩
theorem raNew_ok (w : World) (n : Int) (h : May n) : Calls Tryz.prog 35 #[.int .i64 n] w fun e w' => e = .returned (.tuple #[Ptr w.heap.size, .int .i64 0]) ∧ w' = w.alloc (.cells #[.int .i64 n, .slice none 0 0] 126) := by
  obtain ⟨h1, h2⟩ := h
  go_enter Tryz.func35, Tryz.ntmps35
  go_wp2
  go_ret2
  exact ⟨rfl, rfl⟩
theorem raNew_no (w : World) (n : Int) (h : ¬ May n) : Calls Tryz.prog 35 #[.int .i64 n] w fun e w' => e = .returned (.tuple #[.pointer none, .int .i64 2]) ∧ w' = w := by
  rcases (by unfold May at h; omega : n < 1 ∨ (¬ n < 1 ∧ 15 < n)) with h1 | ⟨h1, h2⟩
  all_goals
    clear h
    go_enter Tryz.func35, Tryz.ntmps35
    go_wp2
    go_ret2
    exact ⟨rfl, rfl⟩
theorem ra_new {w : World} {g B n : Nat} (hB : g < B) (h : w.heap[g]? = some (.cells #[.int .i64 (n : Int), .slice none 0 0] 126 (0, 0))) (h1 : 1 ≤ n) (h2 : n ≤ 15) : Ra w g B n [] :=
  ⟨_, h, own_nil w B, hB, h1, h2, Fit.nil⟩
theorem raPush_nil (w : World) (y : Int) : Calls Tryz.prog 46 #[.pointer none, .int .i64 y] w fun e w' => e = .returned (.tuple #[.int .i64 0, .int .i64 1]) ∧ w' = w := by
  go_enter Tryz.func46, Tryz.ntmps46
  go_wp2
  go_ret2
  exact ⟨rfl, rfl⟩
theorem enter_of {f : Nat} {fn : Func} (hf : Tryz.prog.funcs[f]? = some fn) (hname : (fn.name == "runtime.NumGoroutine") = false) (hb0 : fn.body.isSome = true) (args : Array Value) (w : World) : (callFunc f args).run Tryz.prog w = .ok (.enter f args) w := by
  obtain ⟨c, hb⟩ := Option.isSome_iff_exists.1 hb0
  have hn : fn.name ≠ "runtime.NumGoroutine" := by simpa using hname
  simp [callFunc, go_sem, hf, hn, hb]
/-- A call that answers and leaves the world as it was, at a step of a region that draws its order. -/
theorem step_fun {ops : Array Oper} {o : Oper} {a : Act} {w : World} {K : Act → World → Prop} {Q : Exit → Act → World → Prop} {E : Prop} {f : Nat} {x : Operand} {ts : Array Nat} {u v : Value} (hgd : o.guard = none) (ho : o.op = .call { callee := .value (.func f), args := #[x], argTypes := ts }) (hx : a.eval x = u) (hf : ∀ args W, (callFunc f args).run Tryz.prog W = .ok (.enter f args) W) (hc : Calls Tryz.prog f #[u] w fun e w' => e = .returned v ∧ w' = w) (h : K (a.put o.dst v) w) :
    if Region.wanted o (yielded ops a.tmps) = true then Oper.wp Tryz.prog o a w K Q else E := by
  have hw : Region.wanted o (yielded ops a.tmps) = true := by simp [Region.wanted, hgd]
  rw [if_pos hw]
  unfold Oper.wp execOp
  have e : a.eval (.func f) = .func (.func f) #[] #[] := rfl
  simp [ho, resolve, e, Deferred.ofValue, invoke, hf, Oper.upon, hx]
  refine Calls.mono hc ?_
  rintro e w' ⟨rfl, rfl⟩
  exact h
theorem ra_store {w w1 w2 : World} {g B n gg cap : Nat} {L : List Int} {v : Value} {c : Int} (x : RaX w g B n L v) (hc : Fit [c]) (a : After w w1) (hgrow : w1.grownBy w2 v.ownBlock) (hown : w2.ownsRow B 3 1 (.slice (some ⟨gg, 0, none⟩) (L.length + 1) cap) (L.length + 1) (i64s L ++ [.int .i64 c])) :
    RaX (w2.setCell ⟨g, 1, none⟩ (.slice (some ⟨gg, 0, none⟩) (L.length + 1) cap)) g B n (L ++ [c]) (.slice (some ⟨gg, 0, none⟩) (L.length + 1) cap) ∧ But (With g B) w (w2.setCell ⟨g, 1, none⟩ (.slice (some ⟨gg, 0, none⟩) (L.length + 1) cap)) := by
  have hg := blk_lt x.at0
  have hB := x.hB
  have b2 : But (From B) w w2 := a.but.then (T := fun k => v.ownBlock = some k) (But.grown But.rfl hgrow (fun k hk _ => hk)) (fun i _ t => (own_lt x.own t).1)
  have h2 : w2.heap[g]? = _ := (b2.block g hg (fun t => by have : B ≤ g := t; omega)).trans x.at0
  have e : i64s L ++ [Value.int .i64 c] = i64s (L ++ [c]) := i64s_append L [c]
  have el : L.length + 1 = (L ++ [c]).length := by rw [List.length_append, List.length_singleton]
  refine ⟨⟨two_set1 h2 _, ?_, hB, x.pos, x.hn, x.fit.append hc⟩, (b2.mono (fun i _ t => .inr t)).trans (But.set (S := With g B) But.rfl ⟨g, 1, none⟩ (fun _ => .inl rfl) _)⟩
  rw [e] at hown
  have h3 := own_but hown (but_one w2 g 1 (.slice (some ⟨gg, 0, none⟩) (L.length + 1) cap)) (fun k hk t => by
    have h4 := (World.ownsRow.lt hown k hk).1
    have : k = g := t
    omega)
  rw [el] at h3 ⊢
  exact h3
set_option maxHeartbeats 2000000 in
theorem raPush_any {w : World} {g B n : Nat} {L : List Int} (x : Ra w g B n L) (hl : L.length < 17592186044416) (hBs : B ≤ w.heap.size) (y : Int) :
    Calls Tryz.prog 46 #[Ptr g, .int .i64 y] w fun e w' => e = .returned (.tuple #[.int .i64 (meanZ (lastN n (L ++ [clampZ y]))), .int .i64 0]) ∧ Ra w' g B n (L ++ [clampZ y]) ∧ But (With g B) w w' := by
  have HC := hideIt (fun W => refClamp_any y W)
  have HFC := hideIt (Fit.one y)
  generalize clampZ y = c at *
  obtain ⟨i0, hi, hz⟩ := Option.map_eq_some_iff.1 Tryz.infoInt
  simp only [Prod.mk.injEq] at hz
  obtain ⟨hz0, hz1, hz2⟩ := hz
  obtain ⟨v, x⟩ := x
  obtain ⟨hgl, hc0, hc1, hf0, hf1⟩ := two_at x.at0
  have ne : v.ownBlock ≠ some g := fun h => by have := (own_lt x.own h).1; have := x.hB; omega
  have HX := hideIt x
  have hn0 : ¬ (n : Int) = 0 := by have := x.pos; omega
  have hb0 : ((n : Int) == 0) = false := by simpa using hn0
  have HL := hideIt hl
  have hfa : ∀ o, (w.alloc o).drew.frozen? ⟨g, 1, none⟩ = false := fun o => by
    have h := World.frozen?_of_block (w := w) (w' := (w.alloc o).drew) (a := ⟨g, 1, none⟩) (Below.heap_alloc _ _ _ (by assumption))
    rw [h]; exact hf1
  have hca : ∀ o, (w.alloc o).drew.cell? ⟨g, 1, none⟩ = some v := fun o => by
    have h := World.cell?_of_block (w := w) (w' := (w.alloc o).drew) (a := ⟨g, 1, none⟩) (Below.heap_alloc _ _ _ (by assumption))
    rw [h]; exact hc1
  have HE := hideIt (enter_of Tryz.func44 (by kernel_rfl) (by kernel_rfl))
  clear x hl
  go_enter Tryz.func46, Tryz.ntmps46
  go_wp2_with fail
  go_region_law
    (first
      | (refine step_fun (by rfl) (by rfl) (by rfl) HE.out (HC.out _) ?_)
      | (refine step_append_lies _ (by rfl) _ _ _ (by rfl) B 3 i0 _ 1 8 Tryz.underlying107 hi hz0 hz1 hz2 rfl (by omega) v L.length (i64s L) (by rfl) ((HX.out.own.alloc _).drew)
            ⟨w.heap.size, 0, none⟩ 1 1 [_] (by rfl) (by rfl) (World.news_of_block (cs := #[_]) (t := 3) (fr := (0, 0)) (heap_alloc_new w _)) (by simp [Value.oneCell'])
            (by omega) (by have := HL.out; unfold maxLen; omega) (by have := HL.out; omega) (by simp; omega) (w.heap.size + 1) (by simp) ?_; intro gg cap w2 hown1 hgrow hat hlt2; have x1 := (hgrow.cell_far ⟨g, 1, none⟩ (by simp; omega) (Ne.symm ne)).trans (hca _); have x2 := (hgrow.frozen_far ⟨g, 1, none⟩ (by simp; omega) (Ne.symm ne)).trans (hfa _)))
  all_goals
    obtain ⟨y1, b1⟩ := ra_store (c := c) HX.out HFC.out ((After.rfl.alloc _).draws 1) hgrow hown1
    obtain ⟨W, hW⟩ : ∃ W, W = w2.setCell ⟨g, 1, none⟩ (.slice (some ⟨gg, 0, none⟩) (L.length + 1) cap) := ⟨_, rfl⟩
    rw [← hW] at y1 b1 ⊢
    obtain ⟨_, d0, d1, _, _⟩ := two_at y1.at0
    have hir : IRow W (some ⟨gg, 0, none⟩) (L.length + 1) (L ++ [c]) ∧ L.length + 1 ≤ cap := by
      obtain ⟨a', c', e1, e2, e3, e4, _⟩ := own_irow y1.own
      rw [List.length_append, List.length_singleton] at e1 e2 e4
      cases e1
      exact ⟨e2, e4⟩
    have HY := hideIt (And.intro y1 b1)
    have hn15 := y1.hn
    have hnp := y1.pos
    obtain ⟨m, hm⟩ : ∃ m : Nat, m = L.length + 1 := ⟨_, rfl⟩
    rw [← hm] at d1 hir ⊢
    have hml : m ≤ 17592186044416 := by have := HL.out; omega
    have hmx : (if (m : Int) - (n : Int) < 0 then (0 : Int) else (m : Int) - (n : Int)) = ((m - n : Nat) : Int) := by split <;> omega
    have hdr := fun k => IRow.drop (k := m - n) (hir.1.after (After.rfl.draws k)) (by omega)
    have hla : (L ++ [c]).drop (m - n) = lastN n (L ++ [c]) := by
      unfold lastN
      rw [List.length_append, List.length_singleton, ← hm]
    rw [hla, Nat.zero_add] at hdr
    have hft : Fit (lastN n (L ++ [c])) := y1.fit.drop _
    have HM := hideIt (fun k cc => refMean_any (W.drewN k) _ _ cc _ (hdr k) (hft) (by omega) (by omega))
    obtain ⟨R, hR⟩ : ∃ R, R = lastN n (L ++ [c]) := ⟨_, rfl⟩
    rw [← hR] at HM
    have HR := hideIt hR
    clear hR
    have hcm := hir.2
    obtain ⟨P, hP⟩ : ∃ P : Nat, P = m - n := ⟨_, rfl⟩
    rw [← hP] at hmx HM
    have p1 : (P : Int) < (m : Int) := by omega
    have p2 : (m : Int) ≤ (cap : Int) := by omega
    have p3 : (m : Int) ≤ 17592186044416 := by omega
    have p4 : (n : Int) ≤ 15 := by omega
    have p5 : ¬ cap = P := by omega
    have p6 : (0 : Int) < (n : Int) := by omega
    have p7 : (m : Int) - (P : Int) = ((m - P : Nat) : Int) := by omega
    have p8 : (cap : Int) - (P : Int) = ((cap - P : Nat) : Int) := by omega
    have p9 : P < m := by omega
    have p10 : m ≤ cap := by omega
    have p11 : P ≤ m := by omega
    have p12 : IntKind.i64.wrap ((m : Int) - (n : Int)) = (m : Int) - (n : Int) := IntWalk.i64_in _ (by omega)
    have p13 : IntKind.i64.wrap (m : Int) = (m : Int) := IntWalk.i64_in _ (by omega)
    clear hft hown1 hgrow hat hlt2 x1 x2 hW y1 b1 hdr hir hla hm hca hfa hc0 hc1 hf0 hf1 hgl ne hcm hP hn15 hnp hml
    go_wp2_with fail
    go_quiet (first | (go_at_call 60; refine Calls.quiet_of (HM.out _ _)))
    go_wp2
    go_ret2
    obtain ⟨y1, b1⟩ := HY.out
    have hR := HR.out
    subst hR
    exact ⟨rfl, Ra.but ⟨_, y1⟩ (After.rfl.draws _) (fun _ _ t => t), b1.draws _⟩
end Go.Proofs.YtgapnimicaopcaaGreat.L10
