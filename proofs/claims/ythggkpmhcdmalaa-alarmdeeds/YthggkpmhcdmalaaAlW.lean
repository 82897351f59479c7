/-
  One deed of both.
-/
import Derived.Test.YthggkpmhcdmalaaAlV
import Derived.Test.YthggkpmhcdmalaaAlO
import Derived.Deep.Cut
namespace Go.Proofs.Ythggkpmhcdmalaa
open Go.RowKit
set_option maxRecDepth 8000
set_option maxHeartbeats 4000000 in
theorem deed_any {W : World} {lo hi : Nat} {va vb : Value} (h : Bo W lo hi va vb) (hh : hi ≤ W.heap.size) (d : Dd) (hd : d.In) : Calls Try.prog 13 #[va, vb, d.v] W fun e w' => e = .returned (.bool true) ∧ Bo w' lo hi va vb ∧ But (Rg lo hi) W w' := by
  obtain ⟨W0, hW0⟩ : ∃ W0, W0 = W.alloc (.cells #[.int .i64 d.k, .bool d.act, .int .i64 d.n] 38) := ⟨_, rfl⟩
  have h0 : W0.heap[W.heap.size]? = some (.cells #[.int .i64 d.k, .bool d.act, .int .i64 d.n] 38 (0, 0)) := by rw [hW0]; exact heap_alloc_new W _
  have a0 : After W W0 := by rw [hW0]; exact After.rfl.alloc _
  have hbx : ∀ V, But (Rg lo hi) W0 V → V.cell? ⟨W.heap.size, 0, none⟩ = some (.int .i64 d.k) ∧ V.cell? ⟨W.heap.size, 1, none⟩ = some (.bool d.act) ∧ V.cell? ⟨W.heap.size, 2, none⟩ = some (.int .i64 d.n) := by
    intro V b
    have h' := (b.block W.heap.size (blk_lt h0) (fun t => by have := t.2; omega)).trans h0
    exact ⟨blk_cell h' rfl, blk_cell h' rfl, blk_cell h' rfl⟩
  have HBX := hideIt hbx
  have A0 := hideIt a0
  have b0 := h.after a0
  have HB := hideIt (fun V => bring3 d.k V hd.1 hd.2.1)
  have kd := broughtTo_lt d.k (m := 3) (by omega)
  have hh0 : hi ≤ W0.heap.size := Nat.le_trans hh a0.size
  have nE : ∀ E : Int, (E != E) = false := fun E => by simp
  rcases (by omega : broughtTo d.k 3 = 0 ∨ broughtTo d.k 3 = 1 ∨ broughtTo d.k 3 = 2) with e | e | e
  · obtain ⟨E, ev, P1, P2, hl, pa, pb, q1, q2⟩ := b0.step hh0 d.act
    have PA := hideIt (pa W0 After.rfl)
    have PBc := hideIt pb
    have PB1 := hideIt q1
    have PB2 := hideIt q2
    have HLn := hideIt hl
    have HH := hideIt hh0
    have hEE := nE E
    rw [e] at HB
    clear h h0 a0 hbx b0 hd kd hh0 nE e pa pb q1 q2 hl hh
    go_enter Try.func13, Try.ntmps13
    go_upto_region 1 with fail
    rw [← hW0]
    clear hW0
    obtain ⟨c0, c1, c2⟩ := HBX.out _ But.rfl
    go_wp2_with fail
    refine (HB.out _).mono ?_
    rintro e w1 ⟨rfl, rfl⟩
    clear HB
    go_wp2_with fail
    refine PA.out.mono ?_
    rintro e w2 ⟨ea, ec, rfl, ir2, hf2, p2⟩
    have HP1 := hideIt p2
    have I2 := hideIt (And.intro ir2 hf2)
    clear PA p2 ir2 hf2 c0 c1 c2
    obtain ⟨c0, c1, c2⟩ := HBX.out _ (PB1.out _ HP1.out)
    go_wp2_with fail
    refine (PBc.out _ HP1.out).mono ?_
    rintro e w3 ⟨eb, fc, rfl, ir3, b3, p3⟩
    have i3 := I2.out.1.but b3 (fun z hz t => by have := I2.out.2 z hz; have := t.2; have := HH.out; omega)
    have HQ := hideIt (eqInts_any w3 ea eb ev.length ev.length ec fc ev ev i3 ir3 (by have := HLn.out; omega))
    rw [show decide (ev = ev) = true from decide_eq_true rfl] at HQ
    have HP2 := hideIt (PB2.out _ p3)
    clear PBc p3 b3 i3 ir3 I2 HP1 c0 c1 c2 HLn
    go_wp2_with fail
    refine HQ.out.mono ?_
    rintro e w4 ⟨rfl, a4⟩
    have BE := HP2.out.2.after a4
    have bE := HP2.out.1.then a4 (fun _ _ t => t.elim)
    clear a4 HQ HP2 PB1 PB2
    obtain ⟨z, ZA, ZB⟩ := BE.state
    have HZA := hideIt ZA
    have HZB := hideIt ZB
    have r1 : (z.ph == z.ph) = true := by simp
    have r2 : (z.pr == z.pr) = true := by simp
    have r3 : (z.si == z.si) = true := by simp
    have r4 : (z.pa == z.pa) = true := by simp
    have HBE := hideIt (And.intro BE bE)
    clear ZA ZB BE bE
    unfold As.v at HZA HZB
    go_wp2_with fail
    refine (HZA.out _ After.rfl).mono ?_
    rintro e w8 ⟨rfl, a8⟩
    have A8 := hideIt a8
    clear a8 HZA
    go_wp2_with fail
    refine (HZB.out _ A8.out).mono ?_
    rintro e w9 ⟨rfl, a9⟩
    have A9 := hideIt (A8.out.trans a9)
    clear a9 A8 HZB
    go_wp2
    go_ret
    exact ⟨rfl, HBE.out.1.after A9.out, But.then A0.out.but (HBE.out.2.then A9.out (fun _ _ t => t.elim)) (fun _ _ t => t)⟩
  · obtain ⟨E, P1, P2, pa, pb, q1, q2⟩ := b0.ack
    have PA := hideIt (pa W0 After.rfl)
    have PBc := hideIt pb
    have PB2 := hideIt q2
    have hEE := nE E
    rw [e] at HB
    clear h h0 a0 hbx b0 hd kd hh0 nE e pa pb q1 q2 hh
    go_enter Try.func13, Try.ntmps13
    go_upto_region 1 with fail
    rw [← hW0]
    clear hW0
    obtain ⟨c0, c1, c2⟩ := HBX.out _ But.rfl
    go_wp2_with fail
    refine (HB.out _).mono ?_
    rintro e w1 ⟨rfl, rfl⟩
    clear HB
    go_wp2_with fail
    refine PA.out.mono ?_
    rintro e w2 ⟨rfl, p2⟩
    have HP1 := hideIt p2
    clear PA p2 c0 c1 c2
    go_wp2_with fail
    refine (PBc.out _ HP1.out).mono ?_
    rintro e w3 ⟨rfl, p3⟩
    obtain ⟨bE, BE⟩ := PB2.out _ p3
    clear PBc p3 HP1 PB2
    obtain ⟨z, ZA, ZB⟩ := BE.state
    have HZA := hideIt ZA
    have HZB := hideIt ZB
    have r1 : (z.ph == z.ph) = true := by simp
    have r2 : (z.pr == z.pr) = true := by simp
    have r3 : (z.si == z.si) = true := by simp
    have r4 : (z.pa == z.pa) = true := by simp
    have HBE := hideIt (And.intro BE bE)
    clear ZA ZB BE bE
    unfold As.v at HZA HZB
    go_wp2_with fail
    refine (HZA.out _ After.rfl).mono ?_
    rintro e w8 ⟨rfl, a8⟩
    have A8 := hideIt a8
    clear a8 HZA
    go_wp2_with fail
    refine (HZB.out _ A8.out).mono ?_
    rintro e w9 ⟨rfl, a9⟩
    have A9 := hideIt (A8.out.trans a9)
    clear a9 A8 HZB
    go_wp2
    go_ret
    exact ⟨rfl, HBE.out.1.after A9.out, But.then A0.out.but (HBE.out.2.then A9.out (fun _ _ t => t.elim)) (fun _ _ t => t)⟩
  · obtain ⟨E, P1, P2, pa, pb, q1, q2⟩ := b0.pause d.n
    have PA := hideIt pa
    have PBc := hideIt pb
    have PB1 := hideIt q1
    have PB2 := hideIt q2
    have hEE := nE E
    rw [e] at HB
    clear h h0 a0 hbx b0 hd kd hh0 nE e pa pb q1 q2 hh
    go_enter Try.func13, Try.ntmps13
    go_upto_region 1 with fail
    rw [← hW0]
    clear hW0
    obtain ⟨c0, c1, c2⟩ := HBX.out _ But.rfl
    go_wp2_with fail
    refine (HB.out _).mono ?_
    rintro e w1 ⟨rfl, rfl⟩
    clear HB c0 c1 c2
    go_upto_region 2 with fail
    refine region_phase (by kernel_rfl) (fun i => ([va, .pointer (some ⟨W.heap.size, 2, none⟩), .int .i64 d.n, .int .i64 E, vb, .pointer (some ⟨W.heap.size, 2, none⟩), .int .i64 d.n, .int .i64 E]).getD i undef) 14 8 (Ph2 3 7 (After w1) P1 P2) _ rfl rfl (Nat.le_of_ble_eq_true rfl) (.inl ⟨rfl, rfl, But.drew After.rfl⟩) ?_ rfl rfl 12 rfl ?_
    · exact ⟨ph_move rfl rfl rfl rfl rfl (Ph2.keep (by decide) (by decide)),
        ph_field rfl rfl rfl rfl rfl (fun w => fieldDd2 w _ _) (Ph2.keep (by decide) (by decide)),
        ph_load rfl rfl rfl rfl rfl (fun L V h => loadI (h.any (fun x => (HBX.out V (After.but x)).2.2) (fun x => (HBX.out V (PB1.out V x)).2.2) (fun x => (HBX.out V (PB2.out V x).1).2.2))) (Ph2.keep (by decide) (by decide)),
        ph_call (vs := [va, .int .i64 d.n]) rfl rfl rfl rfl (enterP Try.func22 (by kernel_rfl) (by kernel_rfl)) rfl (fun L V hd hl h => (PA.out V (h.first hl).1).mono (fun e w' q => ⟨q.1, Ph2.done1 (by decide) (h.first hl).2 q.2⟩)),
        ph_move rfl rfl rfl rfl rfl (Ph2.keep (by decide) (by decide)),
        ph_field rfl rfl rfl rfl rfl (fun w => fieldDd2 w _ _) (Ph2.keep (by decide) (by decide)),
        ph_load rfl rfl rfl rfl rfl (fun L V h => loadI (h.any (fun x => (HBX.out V (After.but x)).2.2) (fun x => (HBX.out V (PB1.out V x)).2.2) (fun x => (HBX.out V (PB2.out V x).1).2.2))) (Ph2.keep (by decide) (by decide)),
        ph_call (vs := [vb, .int .i64 d.n]) rfl rfl rfl rfl (enterP Try.func30 (by kernel_rfl) (by kernel_rfl)) rfl (fun L V hd hl h => (PBc.out V (h.second (hd 3 rfl) hl)).mono (fun e w' q => ⟨q.1, Ph2.done2 (by decide) (hd 3 rfl) q.2⟩)),
        trivial⟩
    intro w3 L hL h K' hK'
    simp only [puts, List.getD_cons_succ, List.getD_cons_zero, List.setIfInBounds_toArray, List.set_cons_succ, List.set_cons_zero, Nat.reduceAdd]
    refine pw_bin rfl (p := .int .i64 E) (q := .int .i64 E) rfl rfl (neqE _ _ _ _) (hK' _ _ ?_)
    obtain ⟨bE, BE⟩ := PB2.out _ (h.end (hL 7 (by decide)))
    clear h hL hK' PA PBc PB1 PB2
    simp only [Act.put, List.getElem_toArray, List.getElem_cons_succ, List.getElem_cons_zero, List.setIfInBounds_toArray, List.set_cons_succ, List.set_cons_zero]
    obtain ⟨z, ZA, ZB⟩ := BE.state
    have HZA := hideIt ZA
    have HZB := hideIt ZB
    have r1 : (z.ph == z.ph) = true := by simp
    have r2 : (z.pr == z.pr) = true := by simp
    have r3 : (z.si == z.si) = true := by simp
    have r4 : (z.pa == z.pa) = true := by simp
    have HBE := hideIt (And.intro BE bE)
    clear ZA ZB BE bE
    unfold As.v at HZA HZB
    go_wp2_with fail
    refine (HZA.out _ After.rfl).mono ?_
    rintro e w8 ⟨rfl, a8⟩
    have A8 := hideIt a8
    clear a8 HZA
    go_wp2_with fail
    refine (HZB.out _ A8.out).mono ?_
    rintro e w9 ⟨rfl, a9⟩
    have A9 := hideIt (A8.out.trans a9)
    clear a9 A8 HZB
    go_wp2
    go_ret
    exact ⟨rfl, HBE.out.1.after A9.out, But.then A0.out.but (HBE.out.2.then A9.out (fun _ _ t => t.elim)) (fun _ _ t => t)⟩
end Go.Proofs.Ythggkpmhcdmalaa
