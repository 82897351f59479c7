/-
  Package panel: Graver, and the document's.
-/
import Derived.Test.YtaiagijepnaalaaPaE
import Derived.BigQuiet
namespace Go.Proofs.Ytaiagijepnaalaa
open Go.RowKit
set_option maxRecDepth 8000
theorem two_vec (w : World) (u v : Vec) : VecAt ((w.alloc (.cells u.cs.toArray 29)).alloc (.cells v.cs.toArray 29)) w.heap.size u ∧ VecAt ((w.alloc (.cells u.cs.toArray 29)).alloc (.cells v.cs.toArray 29)) (w.heap.size + 1) v ∧ After w ((w.alloc (.cells u.cs.toArray 29)).alloc (.cells v.cs.toArray 29)) := alloc_two w _ _
theorem grv_yes {u v : Vec} (h : u.fl = true) : grv u v = true := by unfold grv; rw [h]; rfl
theorem grv_no {u v : Vec} (h : u.fl = false) : grv u v = gvN u.sg v.sg 26 := by unfold grv; rw [h]; rfl
theorem graver_yes (w : World) (u v : Vec) (hu : u.Ok) (hf : u.fl = true) : Calls Try.prog 14 #[u.v, v.v] w fun e w' => e = .returned (.bool true) ∧ After w w' := by
  have H := two_vec w u v
  unfold Vec.v
  generalize hc1 : u.cs.toArray = C1 at *
  generalize hc2 : v.cs.toArray = C2 at *
  obtain ⟨w0, h0⟩ : ∃ w0, w0 = (w.alloc (.cells C1 29)).alloc (.cells C2 29) := ⟨_, rfl⟩
  rw [← h0] at H
  have c := (H.1.cell_mid hu).2.2
  rw [hf] at c
  have A := hideIt H.2.2
  clear H hu hf hc1 hc2
  go_enter Try.func14, Try.ntmps14
  go_upto_region 1 with fail
  rw [← h0]
  clear h0
  go_quiet (fail)
  go_wp2
  go_ret
  exact ⟨rfl, But.draws A.out nq⟩
theorem graver_no (w : World) (u v : Vec) (hu : u.Ok) (hv : v.Ok) (hf : u.fl = false) : Calls Try.prog 14 #[u.v, v.v] w fun e w' => e = .returned (.bool (grv u v)) ∧ After w w' := by
  have H := two_vec w u v
  have HF := hideIt hf
  have HU := hideIt hu
  have HV := hideIt hv
  rw [grv_no hf]
  have hG : decide (wiAt (see u) (see v) 26 = see u) = gvN u.sg v.sg 26 := by
    have := with_same u v
    cases e : gvN u.sg v.sg 26
    · rw [e] at this
      exact decide_eq_false (fun h => by simpa using this.1 h)
    · rw [e] at this
      exact decide_eq_true (this.2 rfl)
  have S1 := fun V => seen_any V u hu
  have S2 := fun V => seen_any V v hv
  have W1 := fun V => with_any V (see u) (see v) (seeAt_length _ _) (seeAt_length _ _)
  have EQ := fun x y V => eqViews x y (l := wiAt (see u) (see v) 26) (m := see u) (by rw [wiAt_length]; exact seeAt_length _ _) (seeAt_length _ _) V
  rw [hG] at EQ
  generalize gvN u.sg v.sg 26 = G at *
  generalize wiAt (see u) (see v) 26 = X at *
  generalize see u = SU at *
  generalize see v = SV at *
  have S := hideIt (And.intro S1 (And.intro S2 (And.intro W1 EQ)))
  clear S1 S2 W1 EQ hG
  obtain ⟨w0, h0⟩ : ∃ w0, w0 = (w.alloc (.cells u.cs.toArray 29)).alloc (.cells v.cs.toArray 29) := ⟨_, rfl⟩
  rw [← h0] at H
  have A := hideIt H
  clear H hu hv hf
  unfold Vec.v
  generalize hc1 : u.cs.toArray = C1 at *
  generalize hc2 : v.cs.toArray = C2 at *
  go_enter Try.func14, Try.ntmps14
  go_upto_region 1 with fail
  rw [← h0]
  clear h0
  refine region_phase (by kernel_rfl) (fun i => ([.pointer (some ⟨w.heap.size, 80, none⟩), .bool false, .bool false, .agg C1, viewV SU, .agg C2, viewV SV, viewV X, .agg C1, viewV SU, .bool G, .bool G]).getD i undef) 5 12 (fun _ V => After w0 V) _ rfl rfl (Nat.le_of_ble_eq_true rfl) (But.drew After.rfl) ?_ rfl rfl 12 rfl ?_
  · exact ⟨ph_field rfl rfl rfl rfl rfl (fun w => fieldV3 w _) (fun _ _ h => h),
      ph_load rfl rfl rfl rfl rfl (fun _ V h => loadB (by have := ((A.out.1.after h).cell_mid HU.out).2.2; rw [HF.out] at this; exact this)) (fun _ _ h => h),
      ph_move rfl rfl rfl rfl rfl (fun _ _ h => h),
      ph_load rfl rfl rfl rfl rfl (fun _ V h => by have := loadVec (A.out.1.after h) HU.out; unfold Vec.v at this; rw [hc1] at this; exact this) (fun _ _ h => h),
      ph_call (vs := [.agg C1]) rfl rfl rfl rfl (enterP Try.func20 (by kernel_rfl) (by kernel_rfl)) rfl (fun _ V _ _ h => by have := S.out.1 V; unfold Vec.v at this; rw [hc1] at this; exact this.mono (fun e w' q => ⟨q.1, h.trans q.2⟩)),
      ph_load rfl rfl rfl rfl rfl (fun _ V h => by have := loadVec (A.out.2.1.after h) HV.out; unfold Vec.v at this; rw [hc2] at this; exact this) (fun _ _ h => h),
      ph_call (vs := [.agg C2]) rfl rfl rfl rfl (enterP Try.func20 (by kernel_rfl) (by kernel_rfl)) rfl (fun _ V _ _ h => by have := S.out.2.1 V; unfold Vec.v at this; rw [hc2] at this; exact this.mono (fun e w' q => ⟨q.1, h.trans q.2⟩)),
      ph_call (vs := [viewV SU, viewV SV]) rfl rfl rfl rfl (enterP Try.func21 (by kernel_rfl) (by kernel_rfl)) rfl (fun _ V _ _ h => (S.out.2.2.1 V).mono (fun e w' q => ⟨q.1, h.trans q.2⟩)),
      ph_load rfl rfl rfl rfl rfl (fun _ V h => by have := loadVec (A.out.1.after h) HU.out; unfold Vec.v at this; rw [hc1] at this; exact this) (fun _ _ h => h),
      ph_call (vs := [.agg C1]) rfl rfl rfl rfl (enterP Try.func20 (by kernel_rfl) (by kernel_rfl)) rfl (fun _ V _ _ h => by have := S.out.1 V; unfold Vec.v at this; rw [hc1] at this; exact this.mono (fun e w' q => ⟨q.1, h.trans q.2⟩)),
      ph_bin rfl rfl rfl rfl rfl rfl (fun V => S.out.2.2.2 _ _ V) (fun _ _ h => h),
      ph_pick (q := false) rfl rfl rfl rfl rfl rfl rfl (fun _ _ h => h),
      trivial⟩
  intro w4 Ls hL h K' hK'
  simp only [puts, List.getD_cons_succ, List.getD_cons_zero, List.setIfInBounds_toArray, List.set_cons_succ, List.set_cons_zero, Nat.reduceAdd]
  refine pw_assign rfl rfl (hK' _ _ ?_)
  have E := hideIt (A.out.2.2.trans h)
  clear hL hK' h S A HF HU HV
  go_wp2
  go_ret
  exact ⟨rfl, E.out⟩
theorem graver_any (w : World) (u v : Vec) (hu : u.Ok) (hv : v.Ok) : Calls Try.prog 14 #[u.v, v.v] w fun e w' => e = .returned (.bool (grv u v)) ∧ After w w' := by
  cases hf : u.fl
  · exact graver_no w u v hu hv hf
  · rw [grv_yes hf]
    exact graver_yes w u v hu hf
theorem gvS_ways (x y : Sg) : (gvS x y = true ∧ y.sh = false) ∨ (gvS x y = false ∧ y.sh = true ∧ x.sh = false) ∨ (gvS x y = false ∧ y.sh = true ∧ x.sh = true ∧ x.pr < y.pr) ∨ (gvS x y = true ∧ y.sh = true ∧ x.sh = true ∧ ¬ x.pr < y.pr) := by
  unfold gvS
  obtain ⟨xs, xo, xp⟩ := x
  obtain ⟨ys, yo, yp⟩ := y
  cases xs <;> cases ys <;> simp
  omega
theorem refGraver_any (w : World) (u v : Vec) (hu : u.Ok) (hv : v.Ok) : Calls Try.prog 15 #[u.v, v.v] w fun e w' => e = .returned (.bool (grv u v)) ∧ After w w' := by
  have H := two_vec w u v
  have HU := hideIt hu
  have HV := hideIt hv
  obtain ⟨w0, h0⟩ : ∃ w0, w0 = (w.alloc (.cells u.cs.toArray 29)).alloc (.cells v.cs.toArray 29) := ⟨_, rfl⟩
  rw [← h0] at H
  have c80 := (H.1.cell_mid hu).2.2
  have A := hideIt H
  have HY := hideIt (@grv_yes u v)
  have HN := hideIt (@grv_no u v)
  generalize grv u v = G at *
  clear H hu hv
  unfold Vec.v
  generalize u.cs.toArray = C1 at *
  generalize v.cs.toArray = C2 at *
  cases hf : u.fl
  · have hG := HN.out hf
    rw [hf] at c80
    clear HY HN hf
    go_enter Try.func15, Try.ntmps15
    go_upto_region 1 with fail
    rw [← h0]
    clear h0
    go_wp2_with fail
    clear c80
    go_loopw [5] (fun i wr => ∃ j : Nat, j ≤ 26 ∧ i = .int .i64 j ∧ gvN u.sg v.sg j = true ∧ After w0 wr) (fun i _ => 26 - (intOf i).toNat)
    case atStart => exact ⟨0, by omega, rfl, rfl, After.rfl⟩
    case round =>
      obtain ⟨j, hj, rfl, hg, af⟩ := hrel
      by_cases hjn : j < 26
      · have i1 : (j : Int) < 26 := by omega
        have hw := gvS_ways (u.sg.getD j Sg.zero) (v.sg.getD j Sg.zero)
        have hx := get_some u.sg Sg.zero (i := j) (by rw [HU.out.1]; exact hjn)
        have hy := get_some v.sg Sg.zero (i := j) (by rw [HV.out.1]; exact hjn)
        obtain ⟨x0, -, x2⟩ := (A.out.1.after af).cell_sg HU.out hx
        obtain ⟨y0, -, y2⟩ := (A.out.2.1.after af).cell_sg HV.out hy
        have hn : gvN u.sg v.sg (j + 1) = (gvN u.sg v.sg j && gvS (u.sg.getD j Sg.zero) (v.sg.getD j Sg.zero)) := rfl
        have hno := gvN_false hg (n := 26) hjn
        have AF := hideIt (A.out.2.2.trans af)
        have AF0 := hideIt af
        have HN := hideIt (And.intro hg (And.intro hn hno))
        clear hx hy hg hn hno af
        generalize u.sg.getD j Sg.zero = x at *
        generalize v.sg.getD j Sg.zero = y at *
        generalize gvS x y = S at *
        rcases hw with ⟨rfl, s1⟩ | ⟨rfl, s1, s2⟩ | ⟨rfl, s1, s2, s3⟩ | ⟨rfl, s1, s2, s3⟩
        · rw [s1] at y0
          go_upto_region 6 with fail
          go_quiet (fail)
          go_wp2
          exact ⟨⟨j + 1, by omega, by simp, by rw [HN.out.2.1, HN.out.1]; rfl, But.draws AF0.out nq⟩, by simp [intOf]; omega⟩
        · rw [s1] at y0
          rw [s2] at x0
          go_upto_region 6 with fail
          go_quiet (fail)
          go_wp2
          go_ret
          exact ⟨ret_bool (HN.out.2.2 (by trivial)).symm, But.draws AF.out nq⟩
        · rw [s1] at y0
          rw [s2] at x0
          go_upto_region 6 with fail
          go_quiet (fail)
          go_wp2
          go_ret
          exact ⟨ret_bool (HN.out.2.2 (by trivial)).symm, But.draws AF.out nq⟩
        · rw [s1] at y0
          rw [s2] at x0
          go_upto_region 6 with fail
          go_quiet (fail)
          go_wp2
          exact ⟨⟨j + 1, by omega, by simp, by rw [HN.out.2.1, HN.out.1]; rfl, But.draws AF0.out nq⟩, by simp [intOf]; omega⟩
      · obtain rfl : j = 26 := by omega
        have AF := hideIt (A.out.2.2.trans af)
        rw [hg] at hG
        subst hG
        go_wp2
        go_ret
        exact ⟨rfl, AF.out⟩
  · have hG := HY.out hf
    subst hG
    rw [hf] at c80
    clear HY HN hf
    go_enter Try.func15, Try.ntmps15
    go_upto_region 1 with fail
    rw [← h0]
    clear h0
    go_wp2
    go_ret
    exact ⟨rfl, A.out.2.2⟩
end Go.Proofs.Ytaiagijepnaalaa
