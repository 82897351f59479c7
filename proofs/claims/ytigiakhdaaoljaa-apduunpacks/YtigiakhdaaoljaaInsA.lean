/-
  What stands within data, and what stands alone, by a coder.
-/
import Derived.Test.YtigiakhdaaoljaaIns
namespace Go.Proofs.Ytigiakhdaaoljaa
open Go.RowKit
set_option maxRecDepth 8000
set_option maxHeartbeats 1000000 in
theorem in44 (w : World) (p q : Option Addr) (m : Bool) (zs : List Int) (S P : Nat → Prop) (g : Nat) (k : Int) (M : Msg) (sa : Option Addr) (sc : Nat) (oa : Option Addr) (oc : Nat) (ba : Option Addr) (bc : Nat) (cd : Cod w p q m zs S) (kb : Keeps w S g (.cells (M.cells sa sc oa oc ba bc) 26 (0, 0))) (x : MsgX w P M sa sc oa oc ba bc) (hP : ∀ k, P k → ¬ S k ∧ k < w.heap.size) (hg : ¬ P g) (hl : m = true → zs.length ≤ 900000000) :
    Calls Try.prog 44 #[Co p q, .int .i64 k, Ptr g] w fun e w' => Ends (insF m inData k M zs) (fun X us => e = .returned (.tuple #[]) ∧ Vars w w' m g P X ∧ ∃ S', Cod w' p q m us S' ∧ StpV S g w S' w') (fun c => e = .panicked (Halt c) ∧ But S w w') := by
  have hgw := kb.lt
  have ng1 : ¬ g = w.heap.size := by omega
  have ng2 : ¬ w.heap.size = g := by omega
  have hA : After w (w.alloc (.cells #[.pointer p, .pointer q] 52)) := After.rfl.alloc _
  have b0 := new1 w (.cells #[.pointer p, .pointer q] 52)
  have kc : Keeps _ S w.heap.size _ := ⟨b0, fun h => absurd (cd.lt _ h) (by omega)⟩
  have kb1 := kb.after hA
  have cd1 := cd.after hA
  have x1 := x.after hA
  obtain ⟨w1, hw1⟩ : ∃ w1, w.alloc (.cells #[.pointer p, .pointer q] 52) = w1 := ⟨_, rfl⟩
  rw [hw1] at hA kc kb1 cd1 x1
  obtain ⟨_, d0, d1, _, _⟩ := two_at kc.at0
  have HN := hideIt (show ∀ W, Calls Try.prog 42 #[Co p q, .bool false] W fun e w' => e = .panicked (Halt (stp m 4)) ∧ After W w' from fun W => by have := must_no W p q; rw [cd.mode] at this; exact this)
  have HX := hideIt (And.intro hA (And.intro kc (And.intro kb1 (And.intro cd1 (And.intro x1 (And.intro hP (And.intro hg hl)))))))
  clear hA b0 kc kb kb1 cd cd1 x x1 hP hg hl
  cases hok : inData k with
  | false =>
    have E := hideIt (show insF m inData k M zs = .error (stp m 4) from if_neg (by rw [hok]; decide))
    go_enter Try.func44, Try.ntmps44
    go_wp2_with fail
    clear hw1
    refine wp_region_held_drew (S := (fun W => W.cell? ⟨w.heap.size, 0, none⟩ = some (.pointer p) ∧ W.cell? ⟨w.heap.size, 1, none⟩ = some (.pointer q) ∧ After w1 W)) rfl ⟨d0, d1, After.rfl.draws 1⟩ (fun hHeld => ?_)
    refine' takeD (i := 0) (d := some 5) (v := _) rfl rfl (by kernel_rfl) (by kernel_rfl) (by kernel_rfl) (fun _ _ _ h => h) (by rfl) hHeld (fun w hSw => ?_) ?_
    rotate_left 1
    · (try dsimp only at hSw)
      go_simp
      try with_reducible rfl
    try simp only [Act.put, List.setIfInBounds_toArray, List.set_cons_zero, List.set_cons_succ]
    refine' takeD (i := 1) (d := some 6) (v := _) rfl rfl (by kernel_rfl) (by kernel_rfl) (by kernel_rfl) (fun _ _ _ h => h) (by rfl) hHeld (fun w hSw => ?_) ?_
    rotate_left 1
    · (try dsimp only at hSw)
      go_simp
      try with_reducible rfl
    try simp only [Act.put, List.setIfInBounds_toArray, List.set_cons_zero, List.set_cons_succ]
    refine wpAnyH_ready (rs := [2]) (by kernel_rfl) (by simp) ?_
    refine AllReadyH.cons rfl (fun K hK => ?_) AllReadyH.nil
    go_simp
    refine (inData_any _ k).mono ?_
    rintro e w5 ⟨rfl, rfl⟩
    rw [hok]
    try go_wp2_with fail
    refine hK.out _ _ ?_ (fun hHeld2 => ?_)
    · exact hHeld
    clear hK K
    try simp only [Act.put, List.setIfInBounds_toArray, List.set_cons_zero, List.set_cons_succ]
    refine wpAnyH_ready (rs := [3]) (by kernel_rfl) (by simp) ?_
    refine AllReadyH.cons rfl (fun K hK => ?_) AllReadyH.nil
    go_simp
    refine (HN.out _).mono ?_
    rintro e w6 ⟨rfl, h6⟩
    exact ⟨rfl, Ends.bad E.out ⟨rfl, (HX.out.1.trans (hHeld2.2.2.trans h6)).but⟩⟩
  | true =>
    have E := hideIt (show insF m inData k M zs = fieldsF m k M zs from if_pos hok)
    go_enter Try.func44, Try.ntmps44
    go_wp2_with fail
    clear hw1
    refine wp_region_held_drew (S := (fun W => W.cell? ⟨w.heap.size, 0, none⟩ = some (.pointer p) ∧ W.cell? ⟨w.heap.size, 1, none⟩ = some (.pointer q) ∧ After w1 W)) rfl ⟨d0, d1, After.rfl.draws 1⟩ (fun hHeld => ?_)
    refine' takeD (i := 0) (d := some 5) (v := _) rfl rfl (by kernel_rfl) (by kernel_rfl) (by kernel_rfl) (fun _ _ _ h => h) (by rfl) hHeld (fun w hSw => ?_) ?_
    rotate_left 1
    · (try dsimp only at hSw)
      go_simp
      try with_reducible rfl
    try simp only [Act.put, List.setIfInBounds_toArray, List.set_cons_zero, List.set_cons_succ]
    refine' takeD (i := 1) (d := some 6) (v := _) rfl rfl (by kernel_rfl) (by kernel_rfl) (by kernel_rfl) (fun _ _ _ h => h) (by rfl) hHeld (fun w hSw => ?_) ?_
    rotate_left 1
    · (try dsimp only at hSw)
      go_simp
      try with_reducible rfl
    try simp only [Act.put, List.setIfInBounds_toArray, List.set_cons_zero, List.set_cons_succ]
    refine wpAnyH_ready (rs := [2]) (by kernel_rfl) (by simp) ?_
    refine AllReadyH.cons rfl (fun K hK => ?_) AllReadyH.nil
    go_simp
    refine (inData_any _ k).mono ?_
    rintro e w5 ⟨rfl, rfl⟩
    rw [hok]
    try go_wp2_with fail
    refine hK.out _ _ ?_ (fun hHeld2 => ?_)
    · exact hHeld
    clear hK K
    try simp only [Act.put, List.setIfInBounds_toArray, List.set_cons_zero, List.set_cons_succ]
    refine wpAnyH_ready (rs := [3]) (by kernel_rfl) (by simp) ?_
    refine AllReadyH.cons rfl (fun K hK => ?_) AllReadyH.nil
    go_simp
    refine (must_yes _ p q).mono ?_
    rintro e w2 ⟨rfl, h6⟩
    try go_wp2_with fail
    refine hK.out _ _ ?_ (fun hHeld3 => ?_)
    · exact ⟨by rw [h6.cell (Nat.lt_of_lt_of_le HX.out.2.1.lt hHeld2.2.2.size)]; exact hHeld2.1, by rw [h6.cell (Nat.lt_of_lt_of_le HX.out.2.1.lt hHeld2.2.2.size)]; exact hHeld2.2.1, hHeld2.2.2.trans h6⟩
    clear hK K
    try simp only [Act.put, List.setIfInBounds_toArray, List.set_cons_zero, List.set_cons_succ]
    refine wpAnyH_done (by kernel_rfl) ?_ _
    have hcut := hHeld3.2.2
    clear hHeld hHeld2 hHeld3 h6
    obtain ⟨hA, kc, kb, cd, x, hP, hg, hl⟩ := HX.out
    have kc2 := kc.after hcut
    have kb2 := kb.after hcut
    have hA2 := hA.trans hcut
    have hP2 : ∀ k, P k → ¬ S k ∧ k < w2.heap.size := fun k hk => ⟨(hP k hk).1, Nat.lt_of_lt_of_le (hP k hk).2 hA2.size⟩
    have H3 := hideIt (fields_any w2 p q m zs S P k M sa sc oa oc ba bc (cd.after hcut) (x.after hcut) hP2 hl (.inr hok))
    obtain ⟨_, y0, y1, _, _⟩ := two_at kc2.at0
    unfold Msg.cells at kb2
    unfold Msg.val at H3
    obtain ⟨mk, ms, mc, mr, mq, mo, mb⟩ := M
    dsimp only at kb2 H3
    obtain ⟨_, ⟨m0, m1, m2, m3, m4, m5, m6⟩, _⟩ := seven_at kb2.at0
    have HY := hideIt (And.intro hA2 (And.intro kb2 (And.intro hP (And.intro hg hcut))))
    clear hA kc kb cd x hP hg hl hcut kc2 kb2 hA2 hP2 d0 d1 HX
    go_wp2_with fail
    refine H3.out.mono ?_
    clear H3
    intro e w3 h3
    obtain ⟨hA2, kb2, hP, hg, hcut⟩ := HY.out
    rcases h3.split with ⟨c9, e3, rfl, t⟩ | ⟨X, us, e3, ⟨xa, xc, ya, yc, za, zc, rfl, x3, o3⟩, S3, k3, s3⟩
    · exact ⟨rfl, Ends.bad (E.out.trans e3) ⟨rfl, hA2.but.trans t⟩⟩
    have kb3 := kb2.step s3
    obtain ⟨_, _, ⟨f0, f1, f2, f3, f4, f5, f6⟩⟩ := seven_at kb3.at0
    obtain ⟨_, ⟨c0, c1, c2, c3, c4, c5, c6⟩, _⟩ := seven_at kb3.at0
    have HZ := hideIt (And.intro kb3 (And.intro x3 (And.intro o3 (And.intro k3 (And.intro s3 (And.intro (E.out.trans e3) (And.intro hA2 (And.intro hP hg))))))))
    clear hA2 kb2 hP hg hcut h3 e3 x3 o3 k3 s3 kb3 HY E m0 m1 m2 m3 m4 m5 m6
    obtain ⟨Xk, Xs, Xc, Xr, Xq, Xo, Xb⟩ := X
    unfold Msg.val
    dsimp only
    go_wp2_with fail
    first | go_end0 | refine bodyPost_ret (results_none rfl _ _ _) rfl ?_
    obtain ⟨kb3, x3, o3, k3, s3, E, hA2, hP, hg⟩ := HZ.out
    have hgs : g < w2.heap.size := Nat.lt_of_lt_of_le hgw hA2.size
    refine Ends.ok E ⟨rfl, ⟨xa, xc, ya, yc, za, zc, seven_sets kb3.at0 _ _ _ _ _ _ _, ?_, fun hm => ?_⟩, S3, ?_, ?_, fun k hk => (s3.new k hk).imp_right (fun h => Nat.le_trans hA2.size h)⟩
    · refine (x3.but (T := One g) ?_ (fun k hk e => ?_)).mono (fun k hk => hk.imp_right (fun h => Nat.le_trans hA2.size h))
      · iterate 7 refine But.set (S := One g) ?_ ⟨g, _, none⟩ (fun _ => Eq.refl g) _
        exact But.rfl
      · cases (show k = g from e); exact hk.elim hg (fun h => by omega)
    · refine own_base (own_but (S := One g) (o3 hm) ?_ (fun k hk e => ?_)) (fun k hk => Nat.le_trans hA2.size ((o3 hm).lt k hk).1)
      · iterate 7 refine But.set (S := One g) ?_ ⟨g, _, none⟩ (fun _ => Eq.refl g) _
        exact But.rfl
      · cases (show k = g from e); have := ((o3 hm).lt _ hk).1; omega
    · iterate 7 refine Cod.set ?_ kb3.out _ _
      exact k3
    · iterate 7 refine But.set ?_ _ (fun _ => .inr rfl) _
      exact (hA2.but.trans s3.but).mono (fun i _ h => .inl h)
set_option maxHeartbeats 1000000 in
theorem in41 (w : World) (p q : Option Addr) (m : Bool) (zs : List Int) (S P : Nat → Prop) (g : Nat) (k : Int) (M : Msg) (sa : Option Addr) (sc : Nat) (oa : Option Addr) (oc : Nat) (ba : Option Addr) (bc : Nat) (cd : Cod w p q m zs S) (kb : Keeps w S g (.cells (M.cells sa sc oa oc ba bc) 26 (0, 0))) (x : MsgX w P M sa sc oa oc ba bc) (hP : ∀ k, P k → ¬ S k ∧ k < w.heap.size) (hg : ¬ P g) (hl : m = true → zs.length ≤ 900000000) (hkn : k ≠ 59136) :
    Calls Try.prog 41 #[Co p q, .int .i64 k, Ptr g] w fun e w' => Ends (insF m alone k M zs) (fun X us => e = .returned (.tuple #[]) ∧ Vars w w' m g P X ∧ ∃ S', Cod w' p q m us S' ∧ StpV S g w S' w') (fun c => e = .panicked (Halt c) ∧ But S w w') := by
  have hkd : (k != 59136) = true := by simpa using hkn
  have hgw := kb.lt
  have ng1 : ¬ g = w.heap.size := by omega
  have ng2 : ¬ w.heap.size = g := by omega
  have hA : After w (w.alloc (.cells #[.pointer p, .pointer q] 52)) := After.rfl.alloc _
  have b0 := new1 w (.cells #[.pointer p, .pointer q] 52)
  have kc : Keeps _ S w.heap.size _ := ⟨b0, fun h => absurd (cd.lt _ h) (by omega)⟩
  have kb1 := kb.after hA
  have cd1 := cd.after hA
  have x1 := x.after hA
  obtain ⟨w1, hw1⟩ : ∃ w1, w.alloc (.cells #[.pointer p, .pointer q] 52) = w1 := ⟨_, rfl⟩
  rw [hw1] at hA kc kb1 cd1 x1
  obtain ⟨_, d0, d1, _, _⟩ := two_at kc.at0
  have HN := hideIt (show ∀ W, Calls Try.prog 42 #[Co p q, .bool false] W fun e w' => e = .panicked (Halt (stp m 4)) ∧ After W w' from fun W => by have := must_no W p q; rw [cd.mode] at this; exact this)
  have HX := hideIt (And.intro hA (And.intro kc (And.intro kb1 (And.intro cd1 (And.intro x1 (And.intro hP (And.intro hg hl)))))))
  clear hA b0 kc kb kb1 cd cd1 x x1 hP hg hl
  cases hok : alone k with
  | false =>
    have E := hideIt (show insF m alone k M zs = .error (stp m 4) from if_neg (by rw [hok]; decide))
    go_enter Try.func41, Try.ntmps41
    go_wp2_with fail
    clear hw1
    refine wp_region_held_drew (S := (fun W => W.cell? ⟨w.heap.size, 0, none⟩ = some (.pointer p) ∧ W.cell? ⟨w.heap.size, 1, none⟩ = some (.pointer q) ∧ After w1 W)) rfl ⟨d0, d1, After.rfl.draws 1⟩ (fun hHeld => ?_)
    refine' takeD (i := 0) (d := some 7) (v := _) rfl rfl (by kernel_rfl) (by kernel_rfl) (by kernel_rfl) (fun _ _ _ h => h) (by rfl) hHeld (fun w hSw => ?_) ?_
    rotate_left 1
    · (try dsimp only at hSw)
      go_simp
      try with_reducible rfl
    try simp only [Act.put, List.setIfInBounds_toArray, List.set_cons_zero, List.set_cons_succ]
    refine' takeD (i := 1) (d := some 8) (v := _) rfl rfl (by kernel_rfl) (by kernel_rfl) (by kernel_rfl) (fun _ _ _ h => h) (by rfl) hHeld (fun w hSw => ?_) ?_
    rotate_left 1
    · (try dsimp only at hSw)
      go_simp
      try with_reducible rfl
    try simp only [Act.put, List.setIfInBounds_toArray, List.set_cons_zero, List.set_cons_succ]
    refine wpAnyH_ready (rs := [2]) (by kernel_rfl) (by simp) ?_
    refine AllReadyH.cons rfl (fun K hK => ?_) AllReadyH.nil
    go_simp
    refine (alone_any _ k).mono ?_
    rintro e w5 ⟨rfl, rfl⟩
    rw [hok]
    try go_wp2_with fail
    refine hK.out _ _ ?_ (fun hHeld2 => ?_)
    · exact hHeld
    clear hK K
    try simp only [Act.put, List.setIfInBounds_toArray, List.set_cons_zero, List.set_cons_succ]
    refine wpAnyH_ready (rs := [3]) (by kernel_rfl) (by simp) ?_
    refine AllReadyH.cons rfl (fun K hK => ?_) AllReadyH.nil
    go_simp
    refine (HN.out _).mono ?_
    rintro e w6 ⟨rfl, h6⟩
    exact ⟨rfl, Ends.bad E.out ⟨rfl, (HX.out.1.trans (hHeld2.2.2.trans h6)).but⟩⟩
  | true =>
    have E := hideIt (show insF m alone k M zs = fieldsF m k M zs from if_pos hok)
    go_enter Try.func41, Try.ntmps41
    go_wp2_with fail
    clear hw1
    refine wp_region_held_drew (S := (fun W => W.cell? ⟨w.heap.size, 0, none⟩ = some (.pointer p) ∧ W.cell? ⟨w.heap.size, 1, none⟩ = some (.pointer q) ∧ After w1 W)) rfl ⟨d0, d1, After.rfl.draws 1⟩ (fun hHeld => ?_)
    refine' takeD (i := 0) (d := some 7) (v := _) rfl rfl (by kernel_rfl) (by kernel_rfl) (by kernel_rfl) (fun _ _ _ h => h) (by rfl) hHeld (fun w hSw => ?_) ?_
    rotate_left 1
    · (try dsimp only at hSw)
      go_simp
      try with_reducible rfl
    try simp only [Act.put, List.setIfInBounds_toArray, List.set_cons_zero, List.set_cons_succ]
    refine' takeD (i := 1) (d := some 8) (v := _) rfl rfl (by kernel_rfl) (by kernel_rfl) (by kernel_rfl) (fun _ _ _ h => h) (by rfl) hHeld (fun w hSw => ?_) ?_
    rotate_left 1
    · (try dsimp only at hSw)
      go_simp
      try with_reducible rfl
    try simp only [Act.put, List.setIfInBounds_toArray, List.set_cons_zero, List.set_cons_succ]
    refine wpAnyH_ready (rs := [2]) (by kernel_rfl) (by simp) ?_
    refine AllReadyH.cons rfl (fun K hK => ?_) AllReadyH.nil
    go_simp
    refine (alone_any _ k).mono ?_
    rintro e w5 ⟨rfl, rfl⟩
    rw [hok]
    try go_wp2_with fail
    refine hK.out _ _ ?_ (fun hHeld2 => ?_)
    · exact hHeld
    clear hK K
    try simp only [Act.put, List.setIfInBounds_toArray, List.set_cons_zero, List.set_cons_succ]
    refine wpAnyH_ready (rs := [3]) (by kernel_rfl) (by simp) ?_
    refine AllReadyH.cons rfl (fun K hK => ?_) AllReadyH.nil
    go_simp
    refine (must_yes _ p q).mono ?_
    rintro e w2 ⟨rfl, h6⟩
    try go_wp2_with fail
    refine hK.out _ _ ?_ (fun hHeld3 => ?_)
    · exact ⟨by rw [h6.cell (Nat.lt_of_lt_of_le HX.out.2.1.lt hHeld2.2.2.size)]; exact hHeld2.1, by rw [h6.cell (Nat.lt_of_lt_of_le HX.out.2.1.lt hHeld2.2.2.size)]; exact hHeld2.2.1, hHeld2.2.2.trans h6⟩
    clear hK K
    try simp only [Act.put, List.setIfInBounds_toArray, List.set_cons_zero, List.set_cons_succ]
    refine wpAnyH_done (by kernel_rfl) ?_ _
    have hcut := hHeld3.2.2
    clear hHeld hHeld2 hHeld3 h6
    obtain ⟨hA, kc, kb, cd, x, hP, hg, hl⟩ := HX.out
    have kc2 := kc.after hcut
    have kb2 := kb.after hcut
    have hA2 := hA.trans hcut
    have hP2 : ∀ k, P k → ¬ S k ∧ k < w2.heap.size := fun k hk => ⟨(hP k hk).1, Nat.lt_of_lt_of_le (hP k hk).2 hA2.size⟩
    have H3 := hideIt (fields_any w2 p q m zs S P k M sa sc oa oc ba bc (cd.after hcut) (x.after hcut) hP2 hl (.inl hok))
    obtain ⟨_, y0, y1, _, _⟩ := two_at kc2.at0
    unfold Msg.cells at kb2
    unfold Msg.val at H3
    obtain ⟨mk, ms, mc, mr, mq, mo, mb⟩ := M
    dsimp only at kb2 H3
    obtain ⟨_, ⟨m0, m1, m2, m3, m4, m5, m6⟩, _⟩ := seven_at kb2.at0
    have HY := hideIt (And.intro hA2 (And.intro kb2 (And.intro hP (And.intro hg hcut))))
    clear hA kc kb cd x hP hg hl hcut kc2 kb2 hA2 hP2 d0 d1 HX
    go_wp2_with fail
    refine H3.out.mono ?_
    clear H3
    intro e w3 h3
    obtain ⟨hA2, kb2, hP, hg, hcut⟩ := HY.out
    rcases h3.split with ⟨c9, e3, rfl, t⟩ | ⟨X, us, e3, ⟨xa, xc, ya, yc, za, zc, rfl, x3, o3⟩, S3, k3, s3⟩
    · exact ⟨rfl, Ends.bad (E.out.trans e3) ⟨rfl, hA2.but.trans t⟩⟩
    have kb3 := kb2.step s3
    obtain ⟨_, _, ⟨f0, f1, f2, f3, f4, f5, f6⟩⟩ := seven_at kb3.at0
    obtain ⟨_, ⟨c0, c1, c2, c3, c4, c5, c6⟩, _⟩ := seven_at kb3.at0
    have HZ := hideIt (And.intro kb3 (And.intro x3 (And.intro o3 (And.intro k3 (And.intro s3 (And.intro (E.out.trans e3) (And.intro hA2 (And.intro hP hg))))))))
    clear hA2 kb2 hP hg hcut h3 e3 x3 o3 k3 s3 kb3 HY E m0 m1 m2 m3 m4 m5 m6
    obtain ⟨Xk, Xs, Xc, Xr, Xq, Xo, Xb⟩ := X
    unfold Msg.val
    dsimp only
    go_wp2_with fail
    first | go_end0 | refine bodyPost_ret (results_none rfl _ _ _) rfl ?_
    obtain ⟨kb3, x3, o3, k3, s3, E, hA2, hP, hg⟩ := HZ.out
    have hgs : g < w2.heap.size := Nat.lt_of_lt_of_le hgw hA2.size
    refine Ends.ok E ⟨rfl, ⟨xa, xc, ya, yc, za, zc, seven_sets kb3.at0 _ _ _ _ _ _ _, ?_, fun hm => ?_⟩, S3, ?_, ?_, fun k hk => (s3.new k hk).imp_right (fun h => Nat.le_trans hA2.size h)⟩
    · refine (x3.but (T := One g) ?_ (fun k hk e => ?_)).mono (fun k hk => hk.imp_right (fun h => Nat.le_trans hA2.size h))
      · iterate 7 refine But.set (S := One g) ?_ ⟨g, _, none⟩ (fun _ => Eq.refl g) _
        exact But.rfl
      · cases (show k = g from e); exact hk.elim hg (fun h => by omega)
    · refine own_base (own_but (S := One g) (o3 hm) ?_ (fun k hk e => ?_)) (fun k hk => Nat.le_trans hA2.size ((o3 hm).lt k hk).1)
      · iterate 7 refine But.set (S := One g) ?_ ⟨g, _, none⟩ (fun _ => Eq.refl g) _
        exact But.rfl
      · cases (show k = g from e); have := ((o3 hm).lt _ hk).1; omega
    · iterate 7 refine Cod.set ?_ kb3.out _ _
      exact k3
    · iterate 7 refine But.set ?_ _ (fun _ => .inr rfl) _
      exact (hA2.but.trans s3.but).mono (fun i _ h => .inl h)
end Go.Proofs.Ytigiakhdaaoljaa
