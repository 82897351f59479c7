/-
  The document's Join, walked.
-/
import Derived.Test.YtajjfklglnefkaaBuG
import Derived.Deep.DeepMust
namespace Go.Proofs.Ytajjfklglnefkaa
open Go.RowKit
set_option maxRecDepth 8000
set_option maxHeartbeats 1000000 in
theorem rjoin_yes {w : World} {g : Nat} {o : Nat → Nat} {b : Bz} (x : Rb w g o b) {t : Int} (h1 : 0 ≤ t) (h2 : t < b.n) (hl : b.ls.length < 8) : Calls Try.prog 19 #[Ptr g, .int .i64 t] w fun e w' => e = .returned (.tuple #[.int .i64 (b.ls.length : Int), .int .i64 0]) ∧ ∃ o', Rb w' g o' (b.join t) ∧ Goes w w' o o' := by
  obtain ⟨cs, vt, vr, ts, ps, x⟩ := x
  have hln := x.tlen
  have hpl := x.len
  obtain ⟨a, c, e, _⟩ := ORow.row x.ownT
  obtain ⟨a', c', e', _⟩ := ORow.row x.ownR
  have c0 := blk_cell x.at0 x.c0
  have c2 := blk_cell x.at0 x.c2
  rw [e] at c2
  have g1 : ¬ t < 0 := by omega
  have g2 : ¬ b.n ≤ t := by omega
  have g3 : ¬ (8 : Int) ≤ (ts.length : Int) := by omega
  have HX := hideIt (And.intro x (And.intro hl (And.intro hln (And.intro hpl (And.intro e e')))))
  clear x h1 h2 hl hln hpl e e'
  go_enter Try.func19, Try.ntmps19
  go_wp2_with fail
  refine (rfNew_ok w 16 (by omega) (by omega)).mono ?_
  rintro e w1 ⟨rfl, hw1⟩
  have hq1 : w1.heap[w.heap.size]? = some (.cells #[.int .i64 (16 : Int), .slice none 0 0, .int .i64 0, .int .i64 0] 85 (0, 0)) := by rw [hw1]; exact heap_alloc_new w _
  have a1 : After w w1 := by rw [hw1]; exact After.rfl.alloc _
  have x := HX.out.1
  have e := HX.out.2.2.2.2.1
  have e' := HX.out.2.2.2.2.2
  have x1 := x.after a1
  have c2 := blk_cell x1.at0 x1.c2
  rw [e] at c2
  have al : After w1 (w1.alloc (.cells #[.int .i64 t] 3)) := After.rfl.alloc _
  have HO := hideIt (x1.after al).ownT
  have HQ := hideIt (And.intro hq1 a1)
  rw [e] at HO
  clear x hw1 hq1 a1 x1 e e' al c0
  go_wp2_with (at_builtin; go_must (refine app_lie (E := inE) rfl (.tmp 32) (.tmp 34) 36 3 Try.underlying36 Try.infoInt rfl (by decide) rfl _ ts rfl HO.out ⟨w1.heap.size, 0, none⟩ 1 t rfl (lit_row (heap_alloc_new w1 _) rfl rfl) (by omega) ?_))
  intro gt ct w2 o2 b2 at2 lt2
  have n1 : ¬ vt.ownBlock = some g := fun h => by have h1 := HX.out.1.lt g h; rw [HX.out.1.lp] at h1; cases h1
  have n2 : ¬ vr.ownBlock = some g := fun h => by have h1 := HX.out.1.lr g h; rw [HX.out.1.lp] at h1; cases h1
  have b2 : But (fun k => vt.ownBlock = some k) (w1.alloc (.cells #[.int .i64 t] 3)) w2 := by rw [HX.out.2.2.2.2.1]; exact b2
  have at2 : vt.ownBlock = some gt ∨ gt = (w1.alloc (.cells #[.int .i64 t] 3)).heap.size := by
    have e : (w1.alloc (.cells #[.int .i64 t] 3)).heap.size = w1.heap.size + 1 := by simp
    rw [HX.out.2.2.2.2.1, e]; exact at2
  have k2 := (b2.block g (by have := HQ.out.2.size; have := blk_lt HX.out.1.at0; simp; omega) n1).trans ((HX.out.1.after (HQ.out.2.alloc (.cells #[.int .i64 t] 3))).at0)
  have d2 := blk_cell k2 HX.out.1.c2
  have d3 := blk_cell k2 HX.out.1.c3
  have f2 := blk_soft k2 2
  have f3 := blk_soft k2 3
  rw [HX.out.2.2.2.2.1] at d2
  rw [HX.out.2.2.2.2.2] at d3
  have HG := hideIt (And.intro o2 (And.intro b2 (And.intro at2 (And.intro lt2 (And.intro k2 (And.intro n1 n2))))))
  clear o2 b2 at2 lt2 k2 n1 n2 HO c2
  obtain ⟨V, hV⟩ : ∃ V, V = w2.setCell ⟨g, 2, none⟩ (.slice (some ⟨gt, 0, none⟩) (ts.length + 1) ct) := ⟨_, rfl⟩
  have hVs : V.heap.size = w2.heap.size := by rw [hV]; simp [World.setCell]
  have aV : After V (V.alloc (.cells #[Ptr w.heap.size] 72)) := After.rfl.alloc _
  have hN : GRow ptE (V.alloc (.cells #[Ptr w.heap.size] 72)) (some ⟨w2.heap.size, 0, none⟩) 1 [w.heap.size] := by
    rw [← hVs]; exact lit_row (heap_alloc_new V _) rfl rfl
  have k3 : V.heap[g]? = some (.cells (cs.setIfInBounds 2 (.slice (some ⟨gt, 0, none⟩) (ts.length + 1) ct)) 62 (0, 0)) := by rw [hV]; exact blk_put HG.out.2.2.2.2.1 2 _
  have oV : ORow ptE 72 (V.alloc (.cells #[Ptr w.heap.size] 72)) 0 (.slice a' ps.length c') ps := by
    rw [← HX.out.2.2.2.2.2]
    have o1 := (HX.out.1.after (HQ.out.2.alloc (.cells #[.int .i64 t] 3))).ownR
    have o2 := own_but o1 HG.out.2.1 (fun k hk h => by have h1 := HX.out.1.lr k hk; rw [HX.out.1.lt k h] at h1; cases h1)
    refine own_after ?_ aV
    rw [hV]
    exact own_but o2 (but_one w2 g 2 _) (fun k hk h => HG.out.2.2.2.2.2.2 (by have : k = g := h; rw [← this]; exact hk))
  have HN := hideIt hN
  have HV := hideIt (And.intro hV (And.intro hVs (And.intro k3 oV)))
  clear hN hV hVs k3 oV aV
  go_wp2_with (at_builtin; go_must (rw [← HV.out.1]; refine app_lie (E := ptE) rfl (.tmp 42) (.tmp 44) 60 72 Try.underlying60 Try.infoRp rfl (by decide) rfl _ ps rfl HV.out.2.2.2 ⟨w2.heap.size, 0, none⟩ 1 w.heap.size rfl HN.out (by have h1 := HX.out.2.1; have h2 := HX.out.2.2.2.1; omega) ?_))
  intro gr cr w4 o4 b4 at4 lt4
  have b4 : But (fun k => vr.ownBlock = some k) (V.alloc (.cells #[Ptr w.heap.size] 72)) w4 := by rw [HX.out.2.2.2.2.2]; exact b4
  have at4 : vr.ownBlock = some gr ∨ gr = (V.alloc (.cells #[Ptr w.heap.size] 72)).heap.size := by
    have e : (V.alloc (.cells #[Ptr w.heap.size] 72)).heap.size = V.heap.size + 1 := by simp
    rw [HX.out.2.2.2.2.2, e]; exact at4
  have aV : After V (V.alloc (.cells #[Ptr w.heap.size] 72)) := After.rfl.alloc _
  have k4 := (b4.block g (Nat.lt_of_lt_of_le (blk_lt HV.out.2.2.1) aV.size) HG.out.2.2.2.2.2.2).trans ((aV.block g (blk_lt HV.out.2.2.1) (fun t => t)).trans HV.out.2.2.1)
  have e2 := blk_cell k4 (set_at (by rw [HX.out.1.size]; decide) _)
  have e3 := blk_cell k4 ((set_off (by decide) _).trans HX.out.1.c3)
  have f4 := blk_soft k4 3
  rw [HX.out.2.2.2.2.2] at e3
  have HH := hideIt (And.intro o4 (And.intro b4 (And.intro at4 (And.intro lt4 aV))))
  clear o4 b4 at4 lt4 aV k4 HN d2 d3 f2 f3
  have l8 := HX.out.2.1
  have l9 := HX.out.2.2.1
  have hw : IntKind.i64.wrap (((ts.length + 1 : Nat) : Int) - 1) = ((ts.length + 1 : Nat) : Int) - 1 := wrap_small _ (by omega) (by omega)
  have hww : (ts.length : Int) < 8 := by omega
  clear l8 l9
  go_wp2_with fail
  go_ret2
  have r := rb_join HX.out.1 HX.out.2.1 (HQ.out.2.alloc (.cells #[.int .i64 t] 3)) (Nat.le_refl _) ((After.rfl.alloc (.cells #[.int .i64 t] 3)).block _ (blk_lt HQ.out.1) (fun t => t) |>.trans HQ.out.1) HG.out.1 HG.out.2.1 HG.out.2.2.1 HG.out.2.2.2.1 (w3 := V.alloc (.cells #[Ptr w.heap.size] 72)) (by rw [← HV.out.1]; exact HH.out.2.2.2.2) HH.out.1 HH.out.2.1 HH.out.2.2.1 HH.out.2.2.2.1
  refine ⟨?_, r⟩
  rw [← HX.out.2.2.1]
  exact congrArg Ending.returned (by go_num)
end Go.Proofs.Ytajjfklglnefkaa
