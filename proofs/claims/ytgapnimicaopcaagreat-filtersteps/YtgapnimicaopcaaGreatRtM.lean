/-
  The document's median: a push, by what it may store into.
-/
import Derived.Test.YtgapnimicaopcaaGreatMdS
import Derived.Test.YtgapnimicaopcaaGreatMdR
import Derived.Deep.AppendLies
import Derived.Deep.RegionLaw
import Derived.Deep.QuietTactic
import Derived.BigQuiet
namespace Go.Proofs.YtgapnimicaopcaaGreat.L9
open Go.RowKit
set_option maxRecDepth 8000
theorem RmX.butO {S : Nat → Prop} {w w' : World} {g B n : Nat} {L : List Int} {v : Value} (x : RmX w g B n L v) (b : But S w w') (hg : ¬ S g) (hs : ∀ k, v.ownBlock = some k → ¬ S k) : RmX w' g B n L v :=
  { x with at0 := (b.block g (blk_lt x.at0) hg).trans x.at0, own := own_but x.own b hs }
theorem RmX.afterO {w w' : World} {g B n : Nat} {L : List Int} {v : Value} (x : RmX w g B n L v) (a : After w w') : RmX w' g B n L v := x.butO a (fun t => t) (fun _ _ t => t)
theorem rm_storeO {w w1 w2 : World} {g B n gg cap : Nat} {L : List Int} {v : Value} {c : Int} (x : RmX w g B n L v) (a : After w w1) (hgrow : w1.grownBy w2 v.ownBlock) (hown : w2.ownsRow B 3 1 (.slice (some ⟨gg, 0, none⟩) (L.length + 1) cap) (L.length + 1) (i64s L ++ [.int .i64 c])) :
    RmX (w2.setCell ⟨g, 1, none⟩ (.slice (some ⟨gg, 0, none⟩) (L.length + 1) cap)) g B n (L ++ [c]) (.slice (some ⟨gg, 0, none⟩) (L.length + 1) cap) ∧ But (Own g v) w (w2.setCell ⟨g, 1, none⟩ (.slice (some ⟨gg, 0, none⟩) (L.length + 1) cap)) := by
  have hg := blk_lt x.at0
  have hB := x.hB
  have b2 : But (fun k => v.ownBlock = some k) w w2 := a.but.then (T := fun k => v.ownBlock = some k) (But.grown But.rfl hgrow (fun k hk _ => hk)) (fun _ _ t => t)
  have h2 : w2.heap[g]? = _ := (b2.block g hg (fun t => by have := (own_lt x.own t).1; omega)).trans x.at0
  have e : i64s L ++ [Value.int .i64 c] = i64s (L ++ [c]) := i64s_append L [c]
  have el : L.length + 1 = (L ++ [c]).length := by rw [List.length_append, List.length_singleton]
  refine ⟨⟨two_set1 h2 _, ?_, hB, x.pos, x.hn⟩, (b2.mono (fun i _ t => .inr t)).trans (But.set (S := Own g v) But.rfl ⟨g, 1, none⟩ (fun _ => .inl rfl) _)⟩
  rw [e] at hown
  have h3 := own_but hown (but_one w2 g 1 (.slice (some ⟨gg, 0, none⟩) (L.length + 1) cap)) (fun k hk t => by
    have h4 := (World.ownsRow.lt hown k hk).1
    have : k = g := t
    omega)
  rw [el] at h3 ⊢
  exact h3
set_option maxHeartbeats 2000000 in
theorem rmPushX {w : World} {g B n : Nat} {L : List Int} {v : Value} (x : RmX w g B n L v) (hl : L.length < 17592186044416) (hBs : B ≤ w.heap.size) (y : Int) :
    Calls Tryz.prog 45 #[Ptr g, .int .i64 y] w fun e w' => e = .returned (.tuple #[.int .i64 (mid (lastN n (L ++ [clampZ y]))), .int .i64 0]) ∧ But (Own g v) w w' ∧ ∃ u, RmX w' g B n (L ++ [clampZ y]) u ∧ (u.ownBlock = v.ownBlock ∨ ∀ k, u.ownBlock = some k → w.heap.size ≤ k) := by
  have HC := hideIt (fun W => refClamp_any y W)
  generalize clampZ y = c at *
  obtain ⟨i0, hi, hz⟩ := Option.map_eq_some_iff.1 Tryz.infoInt
  simp only [Prod.mk.injEq] at hz
  obtain ⟨hz0, hz1, hz2⟩ := hz
  obtain ⟨hgl, hc0, hc1, hf0, hf1⟩ := two_at x.at0
  have ne : v.ownBlock ≠ some g := fun h => by have := (own_lt x.own h).1; have := x.hB; omega
  have HX := hideIt x
  have hn0 : ¬ (n : Int) = 0 := by have := x.pos; omega
  have hb0 : ((n : Int) == 0) = false := by simpa using hn0
  have HL := hideIt hl
  have hfa : ∀ o, (w.alloc o).drew.frozen? ⟨g, 1, none⟩ = false := fun o => by
    have h := World.frozen?_of_block (w := w) (w' := (w.alloc o).drew) (a := ⟨g, 1, none⟩) (Below.heap_alloc _ _ _ (by assumption))
    rw [h]; exact hf1
  have hca : ∀ o, (w.alloc o).drew.cell? ⟨g, 1, none⟩ = some v := fun o => by
    have h := World.cell?_of_block (w := w) (w' := (w.alloc o).drew) (a := ⟨g, 1, none⟩) (Below.heap_alloc _ _ _ (by assumption))
    rw [h]; exact hc1
  have HE := hideIt (enter_of Tryz.func44 (by kernel_rfl) (by kernel_rfl))
  clear x hl
  go_enter Tryz.func45, Tryz.ntmps45
  go_wp2_with fail
  go_region_law
    (first
      | (refine step_fun (by rfl) (by rfl) (by rfl) HE.out (HC.out _) ?_)
      | (refine step_append_lies _ (by rfl) _ _ _ (by rfl) B 3 i0 _ 1 8 Tryz.underlying107 hi hz0 hz1 hz2 rfl (by omega) v L.length (i64s L) (by rfl) ((HX.out.own.alloc _).drew)
            ⟨w.heap.size, 0, none⟩ 1 1 [_] (by rfl) (by rfl) (World.news_of_block (cs := #[_]) (t := 3) (fr := (0, 0)) (heap_alloc_new w _)) (by simp [Value.oneCell'])
            (by omega) (by have := HL.out; unfold maxLen; omega) (by have := HL.out; omega) (by simp; omega) (w.heap.size + 1) (by simp) ?_; intro gg cap w2 hown1 hgrow hat hlt2; have x1 := (hgrow.cell_far ⟨g, 1, none⟩ (by simp; omega) (Ne.symm ne)).trans (hca _); have x2 := (hgrow.frozen_far ⟨g, 1, none⟩ (by simp; omega) (Ne.symm ne)).trans (hfa _)))
  all_goals
    obtain ⟨y1, b1⟩ := rm_storeO (c := c) HX.out ((After.rfl.alloc _).draws 1) hgrow hown1
    obtain ⟨W, hW⟩ : ∃ W, W = w2.setCell ⟨g, 1, none⟩ (.slice (some ⟨gg, 0, none⟩) (L.length + 1) cap) := ⟨_, rfl⟩
    rw [← hW] at y1 b1 ⊢
    obtain ⟨_, d0, d1, _, _⟩ := two_at y1.at0
    have hir : IRow W (some ⟨gg, 0, none⟩) (L.length + 1) (L ++ [c]) ∧ L.length + 1 ≤ cap := by
      obtain ⟨a', c', e1, e2, e3, e4, _⟩ := own_irow y1.own
      rw [List.length_append, List.length_singleton] at e1 e2 e4
      cases e1
      exact ⟨e2, e4⟩
    have hu1 : (Value.slice (some ⟨gg, 0, none⟩) (L.length + 1) cap).ownBlock = v.ownBlock ∨ ∀ k, (Value.slice (some ⟨gg, 0, none⟩) (L.length + 1) cap).ownBlock = some k → w.heap.size ≤ k := by
      rcases hat with h | h
      · exact .inl h.symm
      · refine .inr (fun k hk => ?_)
        have e : gg = k := Option.some.inj hk
        omega
    have HY := hideIt (And.intro y1 (And.intro b1 hu1))
    have hn15 := y1.hn
    have hnp := y1.pos
    obtain ⟨m, hm⟩ : ∃ m : Nat, m = L.length + 1 := ⟨_, rfl⟩
    rw [← hm] at d1 hir ⊢
    have hml : m ≤ 17592186044416 := by have := HL.out; omega
    have hmx : (if (m : Int) - (n : Int) < 0 then (0 : Int) else (m : Int) - (n : Int)) = ((m - n : Nat) : Int) := by split <;> omega
    have hdr := fun k => IRow.drop (k := m - n) (hir.1.after (After.rfl.draws k)) (by omega)
    have hla : (L ++ [c]).drop (m - n) = lastN n (L ++ [c]) := by
      unfold lastN
      rw [List.length_append, List.length_singleton, ← hm]
    rw [hla, Nat.zero_add] at hdr
    have HM := hideIt (fun k cc => refMiddle_any (W.drewN k) _ _ cc _ (hdr k) (by omega) (by omega))
    obtain ⟨R, hR⟩ : ∃ R, R = lastN n (L ++ [c]) := ⟨_, rfl⟩
    rw [← hR] at HM
    have HR := hideIt hR
    clear hR
    have hcm := hir.2
    obtain ⟨P, hP⟩ : ∃ P : Nat, P = m - n := ⟨_, rfl⟩
    rw [← hP] at hmx HM
    have p1 : (P : Int) < (m : Int) := by omega
    have p2 : (m : Int) ≤ (cap : Int) := by omega
    have p3 : (m : Int) ≤ 17592186044416 := by omega
    have p4 : (n : Int) ≤ 15 := by omega
    have p5 : ¬ cap = P := by omega
    have p6 : (0 : Int) < (n : Int) := by omega
    have p7 : (m : Int) - (P : Int) = ((m - P : Nat) : Int) := by omega
    have p8 : (cap : Int) - (P : Int) = ((cap - P : Nat) : Int) := by omega
    have p9 : P < m := by omega
    have p10 : m ≤ cap := by omega
    have p11 : P ≤ m := by omega
    have p12 : IntKind.i64.wrap ((m : Int) - (n : Int)) = (m : Int) - (n : Int) := IntWalk.i64_in _ (by omega)
    have p13 : IntKind.i64.wrap (m : Int) = (m : Int) := IntWalk.i64_in _ (by omega)
    clear hown1 hgrow hat hlt2 x1 x2 hW y1 b1 hu1 hdr hir hla hm hca hfa hc0 hc1 hf0 hf1 hgl ne hcm hP hn15 hnp hml
    go_wp2_with fail
    go_quiet (first | (go_at_call 59; refine Calls.quiet_of (HM.out _ _)))
    go_wp2
    go_ret2
    obtain ⟨y1, b1, hu1⟩ := HY.out
    have hR := HR.out
    subst hR
    exact ⟨rfl, b1.draws _, _, y1.afterO (After.rfl.draws _), hu1⟩
end Go.Proofs.YtgapnimicaopcaaGreat.L9
