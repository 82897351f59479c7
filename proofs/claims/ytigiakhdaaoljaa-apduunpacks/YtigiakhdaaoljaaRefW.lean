/-
  The document's writer: Write, U8, U16, U32, Octets.
-/
import Derived.Test.YtigiakhdaaoljaaWrO
namespace Go.Proofs.Ytigiakhdaaoljaa
set_option maxRecDepth 8000
open Go.RowKit
/-- At block g there is the document's writer, it has written zs, which lie where v leads. -/
def RwAt (w : World) (g : Nat) (v : Value) (zs : List Int) : Prop :=
  w.heap[g]? = some (.cells #[v] 79 (0, 0)) ∧ w.ownsRow 0 5 1 v zs.length (u8s zs) ∧ v.ownBlock ≠ some g ∧ Bs zs
theorem RwAt.but {S : Nat → Prop} {w w' : World} {g : Nat} {v : Value} {zs : List Int} (r : RwAt w g v zs) (b : But S w w') (hg : ¬ S g) (hh : ∀ k, v.ownBlock = some k → ¬ S k) : RwAt w' g v zs :=
  ⟨(b.block g (one_at r.1).1 hg).trans r.1, own_but r.2.1 b hh, r.2.2⟩
theorem RwAt.after {w w' : World} {g : Nat} {v : Value} {zs : List Int} (r : RwAt w g v zs) (b : After w w') : RwAt w' g v zs := r.but b (fun t => t) (fun _ _ t => t)
/-- It went on. -/
def RwTo (w w' : World) (g : Nat) (v : Value) (zs : List Int) : Prop := ∃ v', RwAt w' g v' zs ∧ But (Own g v) w w' ∧ Grew w v v'
theorem RwTo.trans {w w1 w2 : World} {g : Nat} {v v1 : Value} {zs : List Int} (b : But (Own g v) w w1) (hg : Grew w v v1) (h : RwTo w1 w2 g v1 zs) : RwTo w w2 g v zs := by
  obtain ⟨v2, r, b2, g2⟩ := h
  exact ⟨v2, r, b.then b2 (Own.back hg), hg.trans g2 b.size⟩
theorem RwTo.rfl {w : World} {g : Nat} {v : Value} {zs : List Int} (r : RwAt w g v zs) : RwTo w w g v (zs ++ []) := by
  rw [List.append_nil]; exact ⟨v, r, But.rfl, Grew.rfl⟩
theorem rw_set {w W w2 : World} {g n : Nat} {v v' : Value} {zs ys : List Int} (r : RwAt W g v zs) (hb : After W w) (hgrow : w.grownBy w2 v.ownBlock) (ho : w2.ownsRow 0 5 1 v' n (u8s zs ++ u8s ys)) (hn : n = zs.length + ys.length) (hat : Grew W v v') (hy : Bs ys) :
    RwTo W (w2.setCell ⟨g, 0, none⟩ v') g v (zs ++ ys) := by
  obtain ⟨r1, r2, r3, r4⟩ := r
  have hgl := (one_at r1).1
  have e : v'.ownBlock ≠ some g := fun e => by
    rcases hat with h | ⟨k, h, hk⟩
    · exact r3 (by rw [← h, e])
    · rw [h] at e; cases e; omega
  have b1 : But (Own g v) W w2 := But.grown hb.but hgrow (fun k hk _ => .inr hk)
  have hg2 : w2.heap[g]? = some (.cells #[v] 79 (0, 0)) := by
    rw [hgrow.block g (Nat.lt_of_lt_of_le hgl hb.size) (fun e => r3 e.symm), hb.block g hgl (fun t => t)]; exact r1
  have b2 : But (Own g v) w2 (w2.setCell ⟨g, 0, none⟩ v') := (But.own1 w2 g 0 _).mono (fun i _ t => .inl t)
  refine ⟨v', ⟨one_set hg2 _, ?_, e, r4.append hy⟩, b1.trans b2, hat⟩
  rw [u8s_append] at ho
  rw [List.length_append, ← hn]
  exact own_but ho (But.own1 w2 g 0 _) (fun k hk t => by
    have h2 : k = g := t
    exact e (by rw [hk, h2]))
theorem refWrite_any (w : World) : Calls Try.prog 49 #[] w fun e w' => e = .returned (Ptr w.heap.size) ∧ RwAt w' w.heap.size (.slice none 0 0) [] ∧ After w w' := by
  go_enter Try.func49, Try.ntmps49
  go_wp2
  go_ret
  exact ⟨rfl, ⟨heap_alloc_new w _, World.ownsRow_nil _ _ _ _, (fun h => by cases h), Bs.nil⟩, After.rfl.alloc _⟩
/-- What is read behind a new block. -/
theorem one_alloc {w : World} {g : Nat} {v : Value} {T : TypeId} (h : w.heap[g]? = some (.cells #[v] T (0, 0))) (o : Obj) : (w.alloc o).cell? ⟨g, 0, none⟩ = some v ∧ (w.alloc o).frozen? ⟨g, 0, none⟩ = false := by
  have h2 : (w.alloc o).heap[g]? = some (.cells #[v] T (0, 0)) := by rw [Below.heap_alloc _ _ _ (one_at h).1]; exact h
  exact (one_at h2).2
theorem refWU8_any (w : World) (g : Nat) (v : Value) (zs : List Int) (x : Int) (r : RwAt w g v zs) (hl : zs.length + 4 ≤ 1099511627776) :
    Calls Try.prog 52 #[Ptr g, .int .i64 x] w fun e w' => e = .returned (.int .i64 (wnErr 255 x)) ∧ RwTo w w' g v (zs ++ wnNew 1 255 x) := by
  by_cases hx : 0 ≤ x ∧ x ≤ (255 : Nat)
  · obtain ⟨e1, e2⟩ := wn_yes (k := 1) hx
    rw [e1, e2]
    obtain ⟨y, rfl⟩ := Int.eq_ofNat_of_zero_le hx.1
    have k1 : (y : Int) ≤ 255 := hx.2
    have k2 : IntKind.u8.wrap (y : Int) = (y : Int) := by rw [IntKind.wrap_u8]; omega
    have HE := hideIt (show bytesOf 1 (y : Int) = [(y : Int)] by show [(y : Int) / 1 % 256] = _; rw [Int.ediv_one, Int.emod_eq_of_lt (by omega) (by omega)])
    obtain ⟨hgl, hc0, hf0⟩ := one_at r.1
    have ne : v.ownBlock ≠ some g := r.2.2.1
    obtain ⟨i0, hi, hz0, hz1, hz2⟩ := info_parts Try.info5
    have HR := hideIt r
    have HA := hideIt (one_alloc r.1)
    have HL := hideIt hl
    clear r hl e1 e2 hx
    go_enter Try.func52, Try.ntmps52
    go_wp2_with (at_builtin; refine wpList_append_own_at _ rfl (.tmp 15) (.tmp 18) 22 rfl 0 5 i0 (.int .u8 0) 1 1 Try.underlying22 hi hz0 hz1 hz2 rfl (by decide) v _ _ rfl (HR.out.2.1.alloc _) ⟨w.heap.size, 0, none⟩ 1 1 (u8s [(y : Int)]) rfl rfl (World.news_of_block (cs := #[.int .u8 (y : Int)]) (t := 5) (fr := (0, 0)) (heap_alloc_new w _)) (u8s_one _) (by have := HL.out; unfold maxLen; omega) (by have := HL.out; omega) (Nat.zero_le _) ?_; intro v2 w2 hown hgrow _ hat; obtain ⟨a2, c2, rfl⟩ := own_slice hown; have x1 := (hgrow.cell_far ⟨g, 0, none⟩ (by simp; omega) (Ne.symm ne)).trans (HA.out _).1; have x2 := (hgrow.frozen_far ⟨g, 0, none⟩ (by simp; omega) (Ne.symm ne)).trans (HA.out _).2; have HF := hideIt (rw_set (ys := [(y : Int)]) HR.out (After.rfl.alloc _) hgrow hown rfl (hat.imp_right (fun h => ⟨_, h, by simp⟩)) (by intro z hz; rw [List.mem_singleton.1 hz]; omega)); clear hown hgrow hat)
    go_ret
    exact ⟨rfl, by rw [HE.out]; exact HF.out⟩
  · obtain ⟨e1, e2⟩ := wn_no (k := 1) hx
    rw [e1, e2]
    have HR := hideIt r
    have hx2 : x < 0 ∨ 255 < x := by omega
    clear r hl e1 e2 hx
    rcases hx2 with hx | hx
    all_goals
      go_enter Try.func52, Try.ntmps52
      go_wp2
      go_ret
      exact ⟨rfl, RwTo.rfl HR.out⟩
theorem refWU16_any (w : World) (g : Nat) (v : Value) (zs : List Int) (x : Int) (r : RwAt w g v zs) (hl : zs.length + 4 ≤ 1099511627776) :
    Calls Try.prog 50 #[Ptr g, .int .i64 x] w fun e w' => e = .returned (.int .i64 (wnErr 65535 x)) ∧ RwTo w w' g v (zs ++ wnNew 2 65535 x) := by
  by_cases hx : 0 ≤ x ∧ x ≤ (65535 : Nat)
  · obtain ⟨e1, e2⟩ := wn_yes (k := 2) hx
    rw [e1, e2]
    obtain ⟨y, rfl⟩ := Int.eq_ofNat_of_zero_le hx.1
    have k1 : (y : Int) ≤ 65535 := hx.2
    have k2 : IntKind.u8.wrap ((y : Int) / 256) = (y : Int) / 256 := by rw [IntKind.wrap_u8]; omega
    have k3 : IntKind.u8.wrap ((y : Int) % 256) = (y : Int) % 256 := by rw [IntKind.wrap_u8]; omega
    have HE := hideIt (show bytesOf 2 (y : Int) = [(y : Int) / 256, (y : Int) % 256] by show [(y : Int) / 256 % 256, (y : Int) / 1 % 256] = _; rw [Int.ediv_one, Int.emod_eq_of_lt (a := (y : Int) / 256) (by omega) (by omega)])
    obtain ⟨hgl, hc0, hf0⟩ := one_at r.1
    have ne : v.ownBlock ≠ some g := r.2.2.1
    obtain ⟨i0, hi, hz0, hz1, hz2⟩ := info_parts Try.info5
    have HR := hideIt r
    have HA := hideIt (one_alloc r.1)
    have HL := hideIt hl
    clear r hl e1 e2 hx
    go_enter Try.func50, Try.ntmps50
    go_wp2_with (at_builtin; refine wpList_append_own_at _ rfl (.tmp 15) (.tmp 22) 22 rfl 0 5 i0 (.int .u8 0) 1 1 Try.underlying22 hi hz0 hz1 hz2 rfl (by decide) v _ _ rfl (HR.out.2.1.alloc _) ⟨w.heap.size, 0, none⟩ 2 2 (u8s [(y : Int) / 256, (y : Int) % 256]) rfl rfl (World.news_of_block (cs := #[.int .u8 ((y : Int) / 256), .int .u8 ((y : Int) % 256)]) (t := 5) (fr := (0, 0)) (heap_alloc_new w _)) (u8s_one _) (by have := HL.out; unfold maxLen; omega) (by have := HL.out; omega) (Nat.zero_le _) ?_; intro v2 w2 hown hgrow _ hat; obtain ⟨a2, c2, rfl⟩ := own_slice hown; have x1 := (hgrow.cell_far ⟨g, 0, none⟩ (by simp; omega) (Ne.symm ne)).trans (HA.out _).1; have x2 := (hgrow.frozen_far ⟨g, 0, none⟩ (by simp; omega) (Ne.symm ne)).trans (HA.out _).2; have HF := hideIt (rw_set (ys := [(y : Int) / 256, (y : Int) % 256]) HR.out (After.rfl.alloc _) hgrow hown rfl (hat.imp_right (fun h => ⟨_, h, by simp⟩)) (by intro z hz; simp only [List.mem_cons, List.not_mem_nil, or_false] at hz; omega)); clear hown hgrow hat)
    go_ret
    exact ⟨rfl, by rw [HE.out]; exact HF.out⟩
  · obtain ⟨e1, e2⟩ := wn_no (k := 2) hx
    rw [e1, e2]
    have HR := hideIt r
    have hx2 : x < 0 ∨ 65535 < x := by omega
    clear r hl e1 e2 hx
    rcases hx2 with hx | hx
    all_goals
      go_enter Try.func50, Try.ntmps50
      go_wp2
      go_ret
      exact ⟨rfl, RwTo.rfl HR.out⟩
end Go.Proofs.Ytigiakhdaaoljaa
