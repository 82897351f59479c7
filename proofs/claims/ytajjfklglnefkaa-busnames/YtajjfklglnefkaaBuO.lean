/-
  step: a call of both.
-/
import Derived.Test.YtajjfklglnefkaaBuN
import Derived.Deep.Cut
namespace Go.Proofs.Ytajjfklglnefkaa
open Go.RowKit
set_option maxRecDepth 8000
set_option maxHeartbeats 2000000 in
theorem step_any {w0 W : World} {p g q : Nat} {ob : Obj} {b : Bz} {v : Value} {zs : List Int} (h : Pr w0 W p g q ob b b v zs) (hu : b.Upto 999999) (d : Dx) (hd : d.In) :
    Calls Try.prog 9 #[Ptr p, Ptr g, .agg d.cs] W fun e w' => e = .returned (.bool true) ∧ ∃ b2, (∀ m, b.Upto m → b2.Upto (m + 1)) ∧ ∃ q ob v zs, Pr w0 w' p g q ob b2 b2 v zs := by
  obtain ⟨dk, da, db⟩ := d
  obtain ⟨d1, d2, d3⟩ := hd
  dsimp only at d1 d2 d3
  have x := h.beside #[.int .i64 dk, .int .i64 da, .int .i64 db] 33
  obtain ⟨W1, hW1⟩ : ∃ W1, W1 = W.alloc (.cells #[.int .i64 dk, .int .i64 da, .int .i64 db] 33) := ⟨_, rfl⟩
  rw [← hW1] at x
  have HB := hideIt (fun V => bring_any dk 6 V d1 d2 (by decide) (by decide))
  have hK := broughtTo_lt dk (m := 6) (by decide)
  generalize broughtTo dk 6 = K at *
  have HW := hideIt hW1
  have HX := hideIt x
  have HD := hideIt d3
  have HU := hideIt hu
  obtain ⟨c0, c1, c2⟩ := dx_cells (d := ⟨dk, da, db⟩) x
  dsimp only at c0 c1 c2
  clear h hW1 d1 d2 d3 x hu
  go_enter Try.func9, Try.ntmps9
  go_wp2_with fail
  rw [← HW.out]
  go_wp2_with fail
  refine (HB.out W1).mono ?_
  rintro e w2 ⟨rfl, hw2⟩
  obtain rfl := hw2.symm
  clear HB HW
  rcases (by omega : K = 0 ∨ K = 1 ∨ K = 2 ∨ K = 3 ∨ K = 4 ∨ K = 5) with rfl | rfl | rfl | rfl | rfl | rfl
  · clear hK c0
    have H1 := hideIt (HX.out.join1 da)
    have H2 := hideIt (fun V (y : Pr w0 V p g W.heap.size (.cells #[.int .i64 dk, .int .i64 da, .int .i64 db] 33 (0, 0)) (b.joinS da) b nov []) => y.join2 da)
    generalize b.joinA da = r at *
    obtain ⟨r1, r2⟩ := r
    dsimp only at H1 H2
    have s1 : (r1 == r1) = true := by simp
    have s2 : (r2 == r2) = true := by simp
    clear c2
    go_wp2_with fail
    refine H1.out.mono ?_
    rintro e w3 ⟨rfl, x3⟩
    have c1 := (dx_cells (d := ⟨dk, da, db⟩) x3).2.1
    have X3 := hideIt x3
    dsimp only at c1
    clear x3 H1
    go_wp2_with fail
    refine (H2.out w3 X3.out).mono ?_
    rintro e w4 ⟨rfl, x4⟩
    have X4 := hideIt x4
    clear x4 H2 X3 c1
    go_wp2_with fail
    go_ret
    exact ⟨rfl, b.joinS da, fun m hm => (joinS_upto hm da).mono (Nat.le_succ m), _, _, _, _, X4.out⟩
  · clear hK c0
    have H1 := hideIt (HX.out.tell1 HU.out da db)
    have H2 := hideIt (fun V (y : Pr w0 V p g W.heap.size (.cells #[.int .i64 dk, .int .i64 da, .int .i64 db] 33 (0, 0)) (b.tellS da db) b nov []) => y.tell2 HU.out da db)
    generalize b.tellA da = r at *
    obtain ⟨r1, r2⟩ := r
    dsimp only at H1 H2
    have s1 : (r1 == r1) = true := by simp
    have s2 : (r2 == r2) = true := by simp
    go_wp2_with fail
    refine H1.out.mono ?_
    rintro e w3 ⟨rfl, x3⟩
    have c1 := (dx_cells (d := ⟨dk, da, db⟩) x3).2.1
    have c2 := (dx_cells (d := ⟨dk, da, db⟩) x3).2.2
    have X3 := hideIt x3
    dsimp only at c1 c2
    clear x3 H1
    go_wp2_with fail
    refine (H2.out w3 X3.out).mono ?_
    rintro e w4 ⟨rfl, x4⟩
    have X4 := hideIt x4
    clear x4 H2 X3 c1 c2
    go_wp2_with fail
    go_ret
    exact ⟨rfl, b.tellS da db, fun m hm => tellS_upto hm da db, _, _, _, _, X4.out⟩
  · clear hK c0
    have H1 := hideIt (HX.out.hear1 da)
    have H2 := hideIt (fun V u (y : Pr w0 V p g W.heap.size (.cells #[.int .i64 dk, .int .i64 da, .int .i64 db] 33 (0, 0)) (b.hearS da) b u (b.hearL da)) => y.hear2 da)
    have hl16 : (b.hearL da).length ≤ 17592186044416 := by
      obtain ⟨o, o', ⟨cs, vv, xs, x⟩, _⟩ := HX.out.two
      unfold Bz.hearL
      split
      · exact Nat.zero_le _
      · rename_i hn
        obtain ⟨T, hT⟩ := ring_at hn
        rw [x.ls, List.getElem?_map] at hT
        obtain ⟨y, hy, hyy⟩ := Option.map_eq_some_iff.1 hT
        have hyy : (y.t, y.s) = (T, b.ringOf da) := hyy
        have := (x.rings _ y hy).1.len
        rw [show y.s = b.ringOf da from congrArg Prod.snd hyy] at this
        omega
    generalize b.hearA da = r at *
    generalize b.hearL da = ls at *
    obtain ⟨r1, r2⟩ := r
    dsimp only at H1 H2
    have s1 : (r1 == r1) = true := by simp
    have s2 : (r2 == r2) = true := by simp
    have HL := hideIt hl16
    clear c2 hl16
    go_wp2_with fail
    refine H1.out.mono ?_
    rintro e w3 ⟨u, rfl, x3⟩
    have c1 := (dx_cells (d := ⟨dk, da, db⟩) x3).2.1
    have X3 := hideIt x3
    dsimp only at c1
    clear x3 H1
    go_wp2_with fail
    refine (H2.out w3 u X3.out).mono ?_
    rintro e w4 ⟨u2, rfl, x4, hu2⟩
    obtain ⟨ua, uc, eu, hr1, _⟩ := own_irow x4.row
    obtain ⟨ua2, uc2, eu2, hr2, _⟩ := own_irow hu2
    subst eu eu2
    have HE := hideIt (eqInts_any w4 ua ua2 ls.length ls.length uc uc2 ls ls hr1 hr2 HL.out)
    rw [show decide (ls = ls) = true from decide_eq_true rfl] at HE
    have X4 := hideIt x4
    clear x4 H2 X3 c1 hr1 hr2 hu2
    generalize ls.length = ll at *
    go_wp2_with fail
    refine HE.out.mono ?_
    rintro e w5 ⟨rfl, a5⟩
    have A5 := hideIt a5
    clear a5 HE
    go_wp2_with fail
    go_ret
    exact ⟨rfl, b.hearS da, fun m hm => (hearS_upto hm da).mono (Nat.le_succ m), _, _, _, _, X4.out.after A5.out⟩
  · clear hK c0
    have H1 := hideIt (fun V (y : Pr w0 V p g W.heap.size (.cells #[.int .i64 dk, .int .i64 da, .int .i64 db] 33 (0, 0)) b b nov []) => y.free1 da HD.out)
    have H2 := hideIt (fun V (y : Pr w0 V p g W.heap.size (.cells #[.int .i64 dk, .int .i64 da, .int .i64 db] 33 (0, 0)) (b.freeS da db) b nov []) => y.free2 da HD.out)
    have hm : ∀ m, b.Upto m → (b.freeS da db).Upto (m + 1) := fun m hm => (freeS_upto hm da db).mono (Nat.le_succ m)
    have HM := hideIt hm
    generalize b.freeA da db = r at *
    generalize b.freeS da db = b2 at *
    clear c1 c2 hm
    go_upto_region 15 with fail
    refine region_phase (by kernel_rfl) (fun i => ([Ptr p, .pointer (some ⟨W.heap.size, 1, none⟩), .int .i64 da, .pointer (some ⟨W.heap.size, 2, none⟩), .int .i64 db, .int .i64 r, Ptr g, .pointer (some ⟨W.heap.size, 1, none⟩), .int .i64 da, .pointer (some ⟨W.heap.size, 2, none⟩), .int .i64 db, .int .i64 r, .bool true]).getD i undef) 113 13 (Ph2 5 11 (fun V => Pr w0 V p g W.heap.size (.cells #[.int .i64 dk, .int .i64 da, .int .i64 db] 33 (0, 0)) b b nov []) (fun V => Pr w0 V p g W.heap.size (.cells #[.int .i64 dk, .int .i64 da, .int .i64 db] 33 (0, 0)) b2 b nov []) (fun V => Pr w0 V p g W.heap.size (.cells #[.int .i64 dk, .int .i64 da, .int .i64 db] 33 (0, 0)) b2 b2 nov [])) _ rfl rfl (Nat.le_of_ble_eq_true rfl) (.inl ⟨rfl, rfl, HX.out.after (But.drew After.rfl)⟩) ?_ rfl rfl 12 rfl ?_
    · exact ⟨ph_move rfl rfl rfl rfl rfl (Ph2.keep (by decide) (by decide)),
        ph_field rfl rfl rfl rfl rfl (fun w => fieldDo1 w _ _) (Ph2.keep (by decide) (by decide)),
        ph_load rfl rfl rfl rfl rfl (fun L V h => loadI (h.any (fun x => (dx_cells (d := ⟨dk, da, db⟩) x).2.1) (fun x => (dx_cells (d := ⟨dk, da, db⟩) x).2.1) (fun x => (dx_cells (d := ⟨dk, da, db⟩) x).2.1))) (Ph2.keep (by decide) (by decide)),
        ph_field rfl rfl rfl rfl rfl (fun w => fieldDo2 w _ _) (Ph2.keep (by decide) (by decide)),
        ph_load rfl rfl rfl rfl rfl (fun L V h => loadI (h.any (fun x => (dx_cells (d := ⟨dk, da, db⟩) x).2.2) (fun x => (dx_cells (d := ⟨dk, da, db⟩) x).2.2) (fun x => (dx_cells (d := ⟨dk, da, db⟩) x).2.2))) (Ph2.keep (by decide) (by decide)),
        ph_call (vs := [Ptr p, .int .i64 da, .int .i64 db]) rfl rfl rfl rfl (enterP Try.func16 (by kernel_rfl) (by kernel_rfl)) rfl (fun L V hd hl h => (H1.out V (h.first hl).1).mono (fun e w' q => ⟨q.1, Ph2.done1 (by decide) (h.first hl).2 q.2⟩)),
        ph_move rfl rfl rfl rfl rfl (Ph2.keep (by decide) (by decide)),
        ph_field rfl rfl rfl rfl rfl (fun w => fieldDo1 w _ _) (Ph2.keep (by decide) (by decide)),
        ph_load rfl rfl rfl rfl rfl (fun L V h => loadI (h.any (fun x => (dx_cells (d := ⟨dk, da, db⟩) x).2.1) (fun x => (dx_cells (d := ⟨dk, da, db⟩) x).2.1) (fun x => (dx_cells (d := ⟨dk, da, db⟩) x).2.1))) (Ph2.keep (by decide) (by decide)),
        ph_field rfl rfl rfl rfl rfl (fun w => fieldDo2 w _ _) (Ph2.keep (by decide) (by decide)),
        ph_load rfl rfl rfl rfl rfl (fun L V h => loadI (h.any (fun x => (dx_cells (d := ⟨dk, da, db⟩) x).2.2) (fun x => (dx_cells (d := ⟨dk, da, db⟩) x).2.2) (fun x => (dx_cells (d := ⟨dk, da, db⟩) x).2.2))) (Ph2.keep (by decide) (by decide)),
        ph_call (vs := [Ptr g, .int .i64 da, .int .i64 db]) rfl rfl rfl rfl (enterP Try.func22 (by kernel_rfl) (by kernel_rfl)) rfl (fun L V hd hl h => (H2.out V (h.second (hd 5 rfl) hl)).mono (fun e w' q => ⟨q.1, Ph2.done2 (by decide) (hd 5 rfl) q.2⟩)),
        ph_bin rfl rfl rfl rfl rfl rfl (fun V => eqlE _ _ r V) (Ph2.keep (by decide) (by decide)),
        trivial⟩
    intro w3 L hL h K' hK'
    simp only [puts, List.getD_cons_succ, List.getD_cons_zero, List.setIfInBounds_toArray, List.set_cons_succ, List.set_cons_zero, Nat.reduceAdd]
    refine pw_assign rfl (v := .bool true) rfl (hK' _ _ ?_)
    have X4 := hideIt (h.end (hL 11 (by decide)))
    clear h hL hK' H1 H2
    simp only [Act.put, List.getElem_toArray, List.getElem_cons_succ, List.getElem_cons_zero, List.setIfInBounds_toArray, List.set_cons_succ, List.set_cons_zero]
    go_wp2_with fail
    go_ret
    exact ⟨rfl, b2, HM.out, _, _, _, _, X4.out⟩
  · clear hK c0
    have H1 := hideIt (fun V (y : Pr w0 V p g W.heap.size (.cells #[.int .i64 dk, .int .i64 da, .int .i64 db] 33 (0, 0)) b b nov []) => y.set1 da)
    have H2 := hideIt (fun V (y : Pr w0 V p g W.heap.size (.cells #[.int .i64 dk, .int .i64 da, .int .i64 db] 33 (0, 0)) (b.setS da) b nov []) => y.set2 da)
    have hm : ∀ m, b.Upto m → (b.setS da).Upto (m + 1) := fun m hm => (setS_upto hm da).mono (Nat.le_succ m)
    have HM := hideIt hm
    generalize b.setA da = r at *
    generalize b.setS da = b2 at *
    clear c1 c2 hm
    go_upto_region 17 with fail
    refine region_phase (by kernel_rfl) (fun i => ([Ptr p, .pointer (some ⟨W.heap.size, 1, none⟩), .int .i64 da, .int .i64 r, Ptr g, .pointer (some ⟨W.heap.size, 1, none⟩), .int .i64 da, .int .i64 r, .bool true]).getD i undef) 128 9 (Ph2 3 7 (fun V => Pr w0 V p g W.heap.size (.cells #[.int .i64 dk, .int .i64 da, .int .i64 db] 33 (0, 0)) b b nov []) (fun V => Pr w0 V p g W.heap.size (.cells #[.int .i64 dk, .int .i64 da, .int .i64 db] 33 (0, 0)) b2 b nov []) (fun V => Pr w0 V p g W.heap.size (.cells #[.int .i64 dk, .int .i64 da, .int .i64 db] 33 (0, 0)) b2 b2 nov [])) _ rfl rfl (Nat.le_of_ble_eq_true rfl) (.inl ⟨rfl, rfl, HX.out.after (But.drew After.rfl)⟩) ?_ rfl rfl 12 rfl ?_
    · exact ⟨ph_move rfl rfl rfl rfl rfl (Ph2.keep (by decide) (by decide)),
        ph_field rfl rfl rfl rfl rfl (fun w => fieldDo1 w _ _) (Ph2.keep (by decide) (by decide)),
        ph_load rfl rfl rfl rfl rfl (fun L V h => loadI (h.any (fun x => (dx_cells (d := ⟨dk, da, db⟩) x).2.1) (fun x => (dx_cells (d := ⟨dk, da, db⟩) x).2.1) (fun x => (dx_cells (d := ⟨dk, da, db⟩) x).2.1))) (Ph2.keep (by decide) (by decide)),
        ph_call (vs := [Ptr p, .int .i64 da]) rfl rfl rfl rfl (enterP Try.func17 (by kernel_rfl) (by kernel_rfl)) rfl (fun L V hd hl h => (H1.out V (h.first hl).1).mono (fun e w' q => ⟨q.1, Ph2.done1 (by decide) (h.first hl).2 q.2⟩)),
        ph_move rfl rfl rfl rfl rfl (Ph2.keep (by decide) (by decide)),
        ph_field rfl rfl rfl rfl rfl (fun w => fieldDo1 w _ _) (Ph2.keep (by decide) (by decide)),
        ph_load rfl rfl rfl rfl rfl (fun L V h => loadI (h.any (fun x => (dx_cells (d := ⟨dk, da, db⟩) x).2.1) (fun x => (dx_cells (d := ⟨dk, da, db⟩) x).2.1) (fun x => (dx_cells (d := ⟨dk, da, db⟩) x).2.1))) (Ph2.keep (by decide) (by decide)),
        ph_call (vs := [Ptr g, .int .i64 da]) rfl rfl rfl rfl (enterP Try.func23 (by kernel_rfl) (by kernel_rfl)) rfl (fun L V hd hl h => (H2.out V (h.second (hd 3 rfl) hl)).mono (fun e w' q => ⟨q.1, Ph2.done2 (by decide) (hd 3 rfl) q.2⟩)),
        ph_bin rfl rfl rfl rfl rfl rfl (fun V => eqlE _ _ r V) (Ph2.keep (by decide) (by decide)),
        trivial⟩
    intro w3 L hL h K' hK'
    simp only [puts, List.getD_cons_succ, List.getD_cons_zero, List.setIfInBounds_toArray, List.set_cons_succ, List.set_cons_zero, Nat.reduceAdd]
    refine pw_assign rfl (v := .bool true) rfl (hK' _ _ ?_)
    have X4 := hideIt (h.end (hL 7 (by decide)))
    clear h hL hK' H1 H2
    simp only [Act.put, List.getElem_toArray, List.getElem_cons_succ, List.getElem_cons_zero, List.setIfInBounds_toArray, List.set_cons_succ, List.set_cons_zero]
    go_wp2_with fail
    go_ret
    exact ⟨rfl, b2, HM.out, _, _, _, _, X4.out⟩
  · clear hK c0
    have H1 := hideIt (HX.out.locked1 da HD.out)
    have H2 := hideIt (fun V (y : Pr w0 V p g W.heap.size (.cells #[.int .i64 dk, .int .i64 da, .int .i64 db] 33 (0, 0)) (b.lockS da db) b nov []) => y.locked2 da HD.out)
    generalize b.lockA da db = r at *
    obtain ⟨r1, r2⟩ := r
    dsimp only at H1 H2
    have s1 : (r1 == r1) = true := by simp
    have s2 : (r2 == r2) = true := by simp
    go_wp2_with fail
    refine H1.out.mono ?_
    rintro e w3 ⟨rfl, x3⟩
    have c1 := (dx_cells (d := ⟨dk, da, db⟩) x3).2.1
    have c2 := (dx_cells (d := ⟨dk, da, db⟩) x3).2.2
    have X3 := hideIt x3
    dsimp only at c1 c2
    clear x3 H1
    go_wp2_with fail
    refine (H2.out w3 X3.out).mono ?_
    rintro e w4 ⟨rfl, x4⟩
    have X4 := hideIt x4
    clear x4 H2 X3 c1 c2
    go_wp2_with fail
    go_ret
    exact ⟨rfl, b.lockS da db, fun m hm => (lockS_upto hm da db).mono (Nat.le_succ m), _, _, _, _, X4.out⟩
end Go.Proofs.Ytajjfklglnefkaa
