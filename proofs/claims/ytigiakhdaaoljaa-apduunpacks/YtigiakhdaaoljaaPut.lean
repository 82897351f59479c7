/-
  A writer of package mder: what it has; isNone, put.
-/
import Derived.Test.YtigiakhdaaoljaaClone
import Derived.Deep.AppendLies
import Derived.Deep.RegionHeld3
import Derived.Deep.DrawnRows
import Derived.Deep.RegionLaw
namespace Go.Proofs.Ytigiakhdaaoljaa
open Go.RowKit
attribute [local go_sem ↓] Go.wp_at_zero Go.wp_at_succ
/-- At block g there is a writer, it has written zs, which lie where v leads. -/
def WrAt (w : World) (g : Nat) (v : Value) (zs : List Int) : Prop :=
  w.heap[g]? = some (.cells #[.bool true, v] 74 (0, 0)) ∧ w.ownsRow 0 5 1 v zs.length (u8s zs) ∧ v.ownBlock ≠ some g ∧ Bs zs
theorem WrAt.but {S : Nat → Prop} {w w' : World} {g : Nat} {v : Value} {zs : List Int} (r : WrAt w g v zs) (b : But S w w') (hg : ¬ S g) (hh : ∀ k, v.ownBlock = some k → ¬ S k) : WrAt w' g v zs :=
  ⟨(b.block g (two_at r.1).1 hg).trans r.1, own_but r.2.1 b hh, r.2.2⟩
theorem WrAt.after {w w' : World} {g : Nat} {v : Value} {zs : List Int} (r : WrAt w g v zs) (b : After w w') : WrAt w' g v zs := r.but b (fun t => t) (fun _ _ t => t)
/-- A value that leads to where v leads, or to what is new. -/
def Grew (w : World) (v v' : Value) : Prop := v'.ownBlock = v.ownBlock ∨ ∃ k, v'.ownBlock = some k ∧ w.heap.size ≤ k
theorem Grew.rfl {w : World} {v : Value} : Grew w v v := .inl (Eq.refl _)
theorem Grew.trans {w w1 : World} {v v1 v2 : Value} (h : Grew w v v1) (h2 : Grew w1 v1 v2) (hs : w.heap.size ≤ w1.heap.size) : Grew w v v2 := by
  rcases h2 with e | ⟨k, e, hk⟩
  · rcases h with e1 | ⟨k, e1, hk⟩
    · exact .inl (e.trans e1)
    · exact .inr ⟨k, e.trans e1, hk⟩
  · exact .inr ⟨k, e, Nat.le_trans hs hk⟩
theorem Own.back {w : World} {g : Nat} {v v1 : Value} (h : Grew w v v1) : ∀ i, i < w.heap.size → Own g v1 i → Own g v i := by
  intro i hi t
  rcases t with t | t
  · exact .inl t
  · rcases h with e | ⟨k, e, hk⟩
    · exact .inr (e ▸ t)
    · rw [e] at t; cases t; omega
/-- A writer that went on. -/
def WrTo (w w' : World) (g : Nat) (v : Value) (zs : List Int) : Prop := ∃ v', WrAt w' g v' zs ∧ But (Own g v) w w' ∧ Grew w v v'
theorem WrTo.trans {w w1 w2 : World} {g : Nat} {v v1 : Value} {zs : List Int} (b : But (Own g v) w w1) (hg : Grew w v v1) (h : WrTo w1 w2 g v1 zs) : WrTo w w2 g v zs := by
  obtain ⟨v2, r, b2, g2⟩ := h
  exact ⟨v2, r, b.then b2 (Own.back hg), hg.trans g2 b.size⟩
theorem wIsNone_no {w : World} {g : Nat} {T : TypeId} {y : Value} (h : w.heap[g]? = some (.cells #[.bool true, y] T (0, 0))) :
    Calls Try.prog 45 #[Ptr g] w fun e w' => e = .returned (.bool false) ∧ w' = w := by
  obtain ⟨_, hc0, hc1, hf0, hf1⟩ := two_at h
  clear h
  go_enter Try.func45, Try.ntmps45
  go_wp2
  go_ret
  exact ⟨rfl, rfl⟩
theorem wIsNone_nil (w : World) : Calls Try.prog 45 #[.pointer none] w fun e w' => e = .returned (.bool true) ∧ w' = w := by
  go_enter Try.func45, Try.ntmps45
  go_wp2
  go_ret
  exact ⟨rfl, rfl⟩
theorem wIsNone_zero {w : World} {g : Nat} {T : TypeId} {y : Value} (h : w.heap[g]? = some (.cells #[.bool false, y] T (0, 0))) :
    Calls Try.prog 45 #[Ptr g] w fun e w' => e = .returned (.bool true) ∧ w' = w := by
  obtain ⟨_, hc0, hc1, hf0, hf1⟩ := two_at h
  clear h
  go_enter Try.func45, Try.ntmps45
  go_wp2
  go_ret
  exact ⟨rfl, rfl⟩
/-- Behind an append to what was written, and its store. -/
theorem wr_set {w W w2 : World} {g n : Nat} {v v' : Value} {zs ys : List Int} (r : WrAt W g v zs) (hb : After W w) (hgrow : w.grownBy w2 v.ownBlock) (ho : w2.ownsRow 0 5 1 v' n (u8s zs ++ u8s ys)) (hn : n = zs.length + ys.length) (hat : Grew W v v') (hy : Bs ys) :
    WrTo W (w2.setCell ⟨g, 1, none⟩ v') g v (zs ++ ys) := by
  obtain ⟨r1, r2, r3, r4⟩ := r
  have hgl := (two_at r1).1
  have e : v'.ownBlock ≠ some g := fun e => by
    rcases hat with h | ⟨k, h, hk⟩
    · exact r3 (by rw [← h, e])
    · rw [h] at e; cases e; omega
  have b1 : But (Own g v) W w2 := But.grown hb.but hgrow (fun k hk _ => .inr hk)
  have hg2 : w2.heap[g]? = some (.cells #[.bool true, v] 74 (0, 0)) := by
    rw [hgrow.block g (Nat.lt_of_lt_of_le hgl hb.size) (fun e => r3 e.symm), hb.block g hgl (fun t => t)]; exact r1
  have b2 : But (Own g v) w2 (w2.setCell ⟨g, 1, none⟩ v') := (But.own1 w2 g 1 _).mono (fun i _ t => .inl t)
  refine ⟨v', ⟨two_set1 hg2 _, ?_, e, r4.append hy⟩, b1.trans b2, hat⟩
  rw [u8s_append] at ho
  rw [List.length_append, ← hn]
  exact own_but ho (But.own1 w2 g 1 _) (fun k hk t => by
    have h2 : k = g := t
    exact e (by rw [hk, h2]))
theorem wr_store {w W w2 : World} {g gg cap n : Nat} {v : Value} {zs ys : List Int} (r : WrAt W g v zs) (hb : After W w) (hgrow : w.grownBy w2 v.ownBlock) (ho : w2.ownsRow 0 5 1 (.slice (some ⟨gg, 0, none⟩) n cap) n (u8s zs ++ u8s ys)) (hn : n = zs.length + ys.length) (hat : v.ownBlock = some gg ∨ W.heap.size ≤ gg) (hy : Bs ys) :
    WrTo W (w2.setCell ⟨g, 1, none⟩ (.slice (some ⟨gg, 0, none⟩) n cap)) g v (zs ++ ys) :=
  wr_set r hb hgrow ho hn (hat.imp (fun h => h.symm) (fun h => ⟨gg, rfl, h⟩)) hy
theorem byte_bs (x : Int) : Bs [IntKind.u8.wrap x] := fun z hz => by
  rw [List.mem_singleton.1 hz, IntKind.wrap_u8]; omega
theorem byte_at0 (x : Nat) : [IntKind.u8.wrap (x : Int)] ++ bytesOf 0 x = bytesOf (0 + 1) x := by
  rw [IntKind.wrap_u8]; show [_] = [(x : Int) / 1 % 256]; rw [Int.ediv_one]
theorem byte_at1 (x : Nat) : [IntKind.u8.wrap ((x : Int) / 256)] ++ bytesOf 1 x = bytesOf (1 + 1) x := by rw [IntKind.wrap_u8]; rfl
theorem byte_at2 (x : Nat) : [IntKind.u8.wrap ((x : Int) / 65536)] ++ bytesOf 2 x = bytesOf (2 + 1) x := by rw [IntKind.wrap_u8]; rfl
theorem byte_at3 (x : Nat) : [IntKind.u8.wrap ((x : Int) / 16777216)] ++ bytesOf 3 x = bytesOf (3 + 1) x := by rw [IntKind.wrap_u8]; rfl
set_option maxRecDepth 100000 in
set_option maxHeartbeats 1000000 in
theorem put_any (w : World) (g m : Nat) (v : Value) (zs : List Int) (x : Nat) (r : WrAt w g v zs) (hm : m ≤ 4) (hx : x < 4294967296) (hl : zs.length + 4 ≤ 1099511627776) :
    Calls Try.prog 87 #[Ptr g, .int .u32 x, .int .i64 m] w fun e w' => e = .returned (.tuple #[]) ∧ WrTo w w' g v (zs ++ bytesOf m x) := by
  obtain ⟨i0, hi, hz0, hz1, hz2⟩ := info_parts Try.info5
  have m4 : (m : Int) ≤ 4 := by omega
  have HR := hideIt r
  have HX := hideIt hx
  have HL := hideIt hl
  have HM := hideIt hm
  clear r hx hl hm
  go_enter Try.func87, Try.ntmps87
  go_wp2_with fail
  go_loopw [6] (fun p W => ∃ (j : Nat) (q : Int) (v' : Value) (ys : List Int), j ≤ m ∧ p = .int .i64 q ∧ q + 1 = j ∧ WrAt W g v' (zs ++ ys) ∧ ys ++ bytesOf j x = bytesOf m x ∧ But (Own g v) w W ∧ Grew w v v') (fun p _ => (intOf p + 1).toNat)
  case atStart => exact ⟨m, _, v, [], Nat.le_refl _, rfl, by omega, by rw [List.append_nil]; exact HR.out, rfl, But.rfl, Grew.rfl⟩
  case round =>
    obtain ⟨j, q, v', ys, hj, rfl, hq, hw, hy, hb, hg⟩ := hrel
    cases j with
    | zero =>
      obtain rfl : q = -1 := by omega
      have HF := hideIt (show WrTo w wr g v (zs ++ bytesOf m x) by
        have e : ys = bytesOf m x := by rw [← hy]; exact (List.append_nil ys).symm
        rw [← e]; exact ⟨v', hw, hb, hg⟩)
      clear hw hy hb hg
      go_wp2
      exact bodyPost_end (v := .tuple #[]) (by simp [results, Try.results87, go_sem]) rfl ⟨rfl, HF.out⟩
    | succ p =>
      obtain ⟨_, hc0, hc1, hf0, hf1⟩ := two_at hw.1
      have ne : v'.ownBlock ≠ some g := hw.2.2.1
      have HW := hideIt hw
      have HY := hideIt hy
      have HB := hideIt hb
      have HG := hideIt hg
      have HJ := hideIt hj
      have lz : (zs ++ ys).length ≤ 1099511627776 := by
        have h1 := congrArg List.length hy
        rw [List.length_append, bytesOf_length, bytesOf_length] at h1
        rw [List.length_append]; have := HL.out; have := HM.out; omega
      have HZ := hideIt lz
      obtain ⟨us, hus⟩ : ∃ us, us = zs ++ ys := ⟨_, rfl⟩
      rw [← hus] at HW HZ
      have HU := hideIt hus
      clear hw hy hb hg lz hus
      have hp : p = 0 ∨ p = 1 ∨ p = 2 ∨ p = 3 := by have := HM.out; omega
      clear hj
      have hfa : ∀ o, (wr.alloc o).drew.frozen? ⟨g, 1, none⟩ = false := fun o => by
        have h := World.frozen?_of_block (w := wr) (w' := (wr.alloc o).drew) (a := ⟨g, 1, none⟩) (Below.heap_alloc _ _ _ (by assumption))
        rw [h]; exact hf1
      have hca : ∀ o, (wr.alloc o).drew.cell? ⟨g, 1, none⟩ = some v' := fun o => by
        have h := World.cell?_of_block (w := wr) (w' := (wr.alloc o).drew) (a := ⟨g, 1, none⟩) (Below.heap_alloc _ _ _ (by assumption))
        rw [h]; exact hc1
      rcases hp with rfl | rfl | rfl | rfl
      · obtain rfl : q = 0 := by omega
        clear hq
        have wq : IntKind.i64.wrap 0 = 0 := by decide
        have hyb := byte_at0 x
        have HYB := hideIt hyb
        clear hyb
        go_wp2_with fail
        go_region_law
          ((refine step_append_lies _ (by rfl) _ _ _ (by rfl) 0 5 i0 _ 1 1 Try.underlying22 hi hz0 hz1 hz2 rfl (by omega) v' us.length (u8s us) (by rfl) ((HW.out.2.1.alloc _).drew)
                ⟨wr.heap.size, 0, none⟩ 1 1 [_] (by rfl) (by rfl) (World.news_of_block (cs := #[_]) (t := 5) (fr := (0, 0)) (heap_alloc_new wr _)) (by simp [Value.oneCell'])
                (by omega) (by have := HZ.out; unfold maxLen; omega) (by have := HZ.out; omega) (Nat.zero_le _) (wr.heap.size + 1) (by simp) ?_; intro gg cap w2 hown1 hgrow hat hlt2; have x1 := (hgrow.cell_far ⟨g, 1, none⟩ (by simp; omega) (Ne.symm ne)).trans (hca _); have x2 := (hgrow.frozen_far ⟨g, 1, none⟩ (by simp; omega) (Ne.symm ne)).trans (hfa _)))
        all_goals
          have HF := hideIt (wr_store (ys := [(IntKind.u8.wrap (x : Int))]) HW.out (But.drew (After.rfl.alloc _)) hgrow hown1 rfl (hat.imp_right (fun h => by omega)) (byte_bs _))
          clear hown1 hgrow hat hlt2 x1 x2
          go_wp2
          go_roundw
          case rel =>
            obtain ⟨v2, r2, b2, g2⟩ := WrTo.trans HB.out HG.out HF.out
            refine ⟨0, _, v2, ys ++ [(IntKind.u8.wrap (x : Int))], by have := HJ.out; omega, rfl, by omega, ?_, ?_, b2, g2⟩
            · rw [← List.append_assoc, ← HU.out]; exact r2
            · rw [List.append_assoc, HYB.out]; exact HY.out
          case measure => simp [intOf]
      · obtain rfl : q = 1 := by omega
        clear hq
        have wq : IntKind.i64.wrap 8 = 8 := by decide
        have hyb := byte_at1 x
        have HYB := hideIt hyb
        clear hyb
        go_wp2_with fail
        go_region_law
          ((refine step_append_lies _ (by rfl) _ _ _ (by rfl) 0 5 i0 _ 1 1 Try.underlying22 hi hz0 hz1 hz2 rfl (by omega) v' us.length (u8s us) (by rfl) ((HW.out.2.1.alloc _).drew)
                ⟨wr.heap.size, 0, none⟩ 1 1 [_] (by rfl) (by rfl) (World.news_of_block (cs := #[_]) (t := 5) (fr := (0, 0)) (heap_alloc_new wr _)) (by simp [Value.oneCell'])
                (by omega) (by have := HZ.out; unfold maxLen; omega) (by have := HZ.out; omega) (Nat.zero_le _) (wr.heap.size + 1) (by simp) ?_; intro gg cap w2 hown1 hgrow hat hlt2; have x1 := (hgrow.cell_far ⟨g, 1, none⟩ (by simp; omega) (Ne.symm ne)).trans (hca _); have x2 := (hgrow.frozen_far ⟨g, 1, none⟩ (by simp; omega) (Ne.symm ne)).trans (hfa _)))
        all_goals
          have HF := hideIt (wr_store (ys := [(IntKind.u8.wrap ((x : Int) / 256))]) HW.out (But.drew (After.rfl.alloc _)) hgrow hown1 rfl (hat.imp_right (fun h => by omega)) (byte_bs _))
          clear hown1 hgrow hat hlt2 x1 x2
          go_wp2
          go_roundw
          case rel =>
            obtain ⟨v2, r2, b2, g2⟩ := WrTo.trans HB.out HG.out HF.out
            refine ⟨1, _, v2, ys ++ [(IntKind.u8.wrap ((x : Int) / 256))], by have := HJ.out; omega, rfl, by omega, ?_, ?_, b2, g2⟩
            · rw [← List.append_assoc, ← HU.out]; exact r2
            · rw [List.append_assoc, HYB.out]; exact HY.out
          case measure => simp [intOf]
      · obtain rfl : q = 2 := by omega
        clear hq
        have wq : IntKind.i64.wrap 16 = 16 := by decide
        have hyb := byte_at2 x
        have HYB := hideIt hyb
        clear hyb
        go_wp2_with fail
        go_region_law
          ((refine step_append_lies _ (by rfl) _ _ _ (by rfl) 0 5 i0 _ 1 1 Try.underlying22 hi hz0 hz1 hz2 rfl (by omega) v' us.length (u8s us) (by rfl) ((HW.out.2.1.alloc _).drew)
                ⟨wr.heap.size, 0, none⟩ 1 1 [_] (by rfl) (by rfl) (World.news_of_block (cs := #[_]) (t := 5) (fr := (0, 0)) (heap_alloc_new wr _)) (by simp [Value.oneCell'])
                (by omega) (by have := HZ.out; unfold maxLen; omega) (by have := HZ.out; omega) (Nat.zero_le _) (wr.heap.size + 1) (by simp) ?_; intro gg cap w2 hown1 hgrow hat hlt2; have x1 := (hgrow.cell_far ⟨g, 1, none⟩ (by simp; omega) (Ne.symm ne)).trans (hca _); have x2 := (hgrow.frozen_far ⟨g, 1, none⟩ (by simp; omega) (Ne.symm ne)).trans (hfa _)))
        all_goals
          have HF := hideIt (wr_store (ys := [(IntKind.u8.wrap ((x : Int) / 65536))]) HW.out (But.drew (After.rfl.alloc _)) hgrow hown1 rfl (hat.imp_right (fun h => by omega)) (byte_bs _))
          clear hown1 hgrow hat hlt2 x1 x2
          go_wp2
          go_roundw
          case rel =>
            obtain ⟨v2, r2, b2, g2⟩ := WrTo.trans HB.out HG.out HF.out
            refine ⟨2, _, v2, ys ++ [(IntKind.u8.wrap ((x : Int) / 65536))], by have := HJ.out; omega, rfl, by omega, ?_, ?_, b2, g2⟩
            · rw [← List.append_assoc, ← HU.out]; exact r2
            · rw [List.append_assoc, HYB.out]; exact HY.out
          case measure => simp [intOf]
      · obtain rfl : q = 3 := by omega
        clear hq
        have wq : IntKind.i64.wrap 24 = 24 := by decide
        have hyb := byte_at3 x
        have HYB := hideIt hyb
        clear hyb
        go_wp2_with fail
        go_region_law
          ((refine step_append_lies _ (by rfl) _ _ _ (by rfl) 0 5 i0 _ 1 1 Try.underlying22 hi hz0 hz1 hz2 rfl (by omega) v' us.length (u8s us) (by rfl) ((HW.out.2.1.alloc _).drew)
                ⟨wr.heap.size, 0, none⟩ 1 1 [_] (by rfl) (by rfl) (World.news_of_block (cs := #[_]) (t := 5) (fr := (0, 0)) (heap_alloc_new wr _)) (by simp [Value.oneCell'])
                (by omega) (by have := HZ.out; unfold maxLen; omega) (by have := HZ.out; omega) (Nat.zero_le _) (wr.heap.size + 1) (by simp) ?_; intro gg cap w2 hown1 hgrow hat hlt2; have x1 := (hgrow.cell_far ⟨g, 1, none⟩ (by simp; omega) (Ne.symm ne)).trans (hca _); have x2 := (hgrow.frozen_far ⟨g, 1, none⟩ (by simp; omega) (Ne.symm ne)).trans (hfa _)))
        all_goals
          have HF := hideIt (wr_store (ys := [(IntKind.u8.wrap ((x : Int) / 16777216))]) HW.out (But.drew (After.rfl.alloc _)) hgrow hown1 rfl (hat.imp_right (fun h => by omega)) (byte_bs _))
          clear hown1 hgrow hat hlt2 x1 x2
          go_wp2
          go_roundw
          case rel =>
            obtain ⟨v2, r2, b2, g2⟩ := WrTo.trans HB.out HG.out HF.out
            refine ⟨3, _, v2, ys ++ [(IntKind.u8.wrap ((x : Int) / 16777216))], by have := HJ.out; omega, rfl, by omega, ?_, ?_, b2, g2⟩
            · rw [← List.append_assoc, ← HU.out]; exact r2
            · rw [List.append_assoc, HYB.out]; exact HY.out
          case measure => simp [intOf]
end Go.Proofs.Ytigiakhdaaoljaa
