/-
  Laid together: PartRb, Mess, Catch, Unp1, SameF.
-/
import Derived.Test.YthcfdoafncbliaaGreatB14
import Derived.Test.YthcfdoafncbliaaGreatB03
import Derived.Defers
import Derived.Recover
/-
  A kind, how many bytes follow, and what stands in them: reading.
-/
namespace Go.Proofs.YthcfdoafncbliaaGreat
open Go.RowKit
set_option maxRecDepth 8000
set_option maxHeartbeats 1000000 in
theorem part_r41 (w : World) (p : Option Addr) (zs : List Int) (S P : Nat → Prop) (g : Nat) (k : Int) (M : Msg) (sa : Option Addr) (sc : Nat) (oa : Option Addr) (oc : Nat) (ba : Option Addr) (bc : Nat) (ins : Int → List Int → Except Int (Msg × List Int)) (H : Clo 59 g false P M sa sc oa oc ba bc ins) (cd : Cod w p none false zs S) (kb : Keeps w S g (.cells (M.cells sa sc oa oc ba bc) 31 (0, 0))) (x : MsgX w P M sa sc oa oc ba bc) (hP : ∀ k, P k → ¬ S k ∧ k < w.heap.size) :
    Calls Tryz.prog 58 #[Co p none, .int .i64 k, .func (.func 59) #[] #[Ptr g]] w fun e w' => Ends (partR ins k zs) (fun X us => e = .returned (.tuple #[]) ∧ VarsC w w' false g P X ∧ ∃ S', Cod w' p none false us S' ∧ StpV S g w S' w') (fun c => e = .panicked (Halt c) ∧ But (fun k => S k ∨ k = g) w w') := by
  obtain ⟨gp, rfl⟩ : ∃ gp, p = some ⟨gp, 0, none⟩ := by
    rcases cd.is with ⟨_, g', v, e, _⟩ | ⟨h, _⟩
    · exact ⟨g', e⟩
    · cases h
  have hgw := kb.lt
  have hA : After w (w.alloc (.cells #[.pointer (some ⟨gp, 0, none⟩), .pointer none] 79)) := After.rfl.alloc _
  have b0 := new1 w (.cells #[.pointer (some ⟨gp, 0, none⟩), .pointer none] 79)
  have kc : Keeps _ S w.heap.size _ := ⟨b0, fun h => absurd (cd.lt _ h) (by omega)⟩
  have H1 := hideIt (c_u16 _ (some ⟨gp, 0, none⟩) none false zs S k (cd.after hA) (fun h => by cases h))
  have HX := hideIt (And.intro H (And.intro cd (And.intro kb (And.intro x (And.intro hP (And.intro hA kc))))))
  clear H cd kb x hP hA kc b0
  go_enter Tryz.func58, Tryz.ntmps58
  go_wp2_with fail
  refine H1.out.mono ?_
  clear H1
  intro e w1 h1
  obtain ⟨H, cd, kb, x, hP, hA, kc⟩ := HX.out
  rcases h1.split with ⟨c9, e1, rfl, t⟩ | ⟨y1, z1, e1, rfl, S1, k1, s1⟩
  · exact ⟨rfl, Ends.bad (thn_bad e1) ⟨rfl, (hA.but.trans t).mono (fun _ _ h => .inl h)⟩⟩
  have hE : partR ins k zs = thn (oct false [] z1) fun b zs => if zs.length = 0 then thn (ins y1 b) fun X r => if r.length = 0 then .ok (X, zs) else .error 4 else .error 4 := thn_ok e1
  have kc1 := kc.step s1
  have kb1 := (kb.after hA).step s1
  have st1 := Stp.behind hA s1
  obtain ⟨_, d0, d1, _, _⟩ := two_at kc1.at0
  have H2 := hideIt (c_oct w1 (some ⟨gp, 0, none⟩) none false z1 S1 none 0 0 [] k1 (Row.nil _ _) (fun _ => ⟨rfl, rfl⟩) (fun y hy => by cases hy) (by omega) (fun h => by cases h))
  have HY := hideIt (And.intro hE (And.intro kc1 (And.intro kb1 (And.intro st1 k1.bs))))
  clear H cd kb x hP hA kc h1 e1 k1 s1 hE kc1 kb1 st1
  go_wp2_with fail
  refine H2.out.mono ?_
  clear H2
  intro e w2 h2
  obtain ⟨hE, kc1, kb1, st1, hbs⟩ := HY.out
  rcases h2.split with ⟨c9, e2, rfl, t⟩ | ⟨ys, us, e2, a2, n2, cp2, S2, rfl, r2, nil2, _, k2, s2, _⟩
  · exact ⟨rfl, Ends.bad (hE.trans (thn_bad e2)) ⟨rfl, (st1.ends t).mono (fun _ _ h => .inl h)⟩⟩
  have hl2 := (oct_len e2 hbs).1
  have hE2 := hE.trans (thn_ok e2)
  have kc2 := kc1.step s2
  have kb2 := kb1.step s2
  have st2 := st1.trans s2
  have hn2 : n2 ≤ 140737488355328 := by have := r2.1; omega
  have H3 := hideIt (reader_any w2 a2 n2 cp2 ys r2 nil2 hn2)
  have HZ := hideIt (And.intro hE2 (And.intro kc2 (And.intro kb2 (And.intro st2 k2))))
  clear hE kc1 kb1 st1 hbs h2 e2 r2 nil2 k2 s2 hl2 hE2 kc2 kb2 st2 hn2 HY d0 d1
  go_wp2_with fail
  refine H3.out.mono ?_
  clear H3
  rintro e w3 ⟨p3, S3, rfl, k3, a3, hS3⟩
  obtain ⟨H, cd, kb, x, hP, hA, kc⟩ := HX.out
  obtain ⟨hE2, kc2, kb2, st2, k2⟩ := HZ.out
  have a4 : After w2 (w3.alloc (.cells #[.pointer p3, .pointer none] 79)) := a3.alloc _
  have kc4 := kc2.after a4
  have kb4 := kb2.after a4
  have k24 := k2.after a4
  have k34 := k3.after (After.rfl.alloc (.cells #[.pointer p3, .pointer none] 79))
  have ki4 := new1 w3 (.cells #[.pointer p3, .pointer none] 79)
  have st4 : Stp S w S2 _ := st2.after a4
  have hw2 : w.heap.size < w2.heap.size := kc2.lt
  have hw3 : w2.heap.size ≤ w3.heap.size := a3.size
  have hn3 : ¬ w3.heap.size = w.heap.size := by omega
  have hn3' : ¬ w.heap.size = w3.heap.size := by omega
  have hS3lt := k3.lt
  obtain ⟨_, q0, q1, _, _⟩ := two_at (kc2.after a3).at0
  obtain ⟨w4, hw4⟩ : ∃ w4, w3.alloc (.cells #[.pointer p3, .pointer none] 79) = w4 := ⟨_, rfl⟩
  rw [hw4] at a4 kc4 kb4 k24 k34 ki4 st4
  obtain ⟨_, o0, o1, _, _⟩ := two_at kc4.at0
  have HLF := hideIt (fun W (hW : After w4 W) => c_left W (some ⟨gp, 0, none⟩) us S2 (k24.after hW))
  have HLT := hideIt kc4.lt
  have hwi : w3.heap.size < w4.heap.size := (Array.getElem?_eq_some_iff.1 ki4).1
  have HW := hideIt (And.intro hE2 (And.intro kc4 (And.intro kb4 (And.intro k24 (And.intro k34 (And.intro ki4 (And.intro st4 (And.intro hS3 (And.intro k2.lt (And.intro hw2 (And.intro hw3 (And.intro hS3lt hwi))))))))))))
  clear H cd kb x hP hA kc hE2 kc2 kb2 st2 k2 k3 a3 hS3 a4 kc4 kb4 k24 k34 ki4 st4 HZ hS3lt hwi hw2 hw3
  obtain ⟨nu, hnu⟩ : ∃ nu, us.length = nu := ⟨_, rfl⟩
  have HNU := hideIt hnu
  rw [hnu] at HLF
  clear hnu
  have HW4 := hideIt hw4
  clear hw4
  by_cases hu : nu = 0
  · subst hu
    go_wp2_with fail
    rw [HW4.out]
    refine wp_region_held_drew (S := (fun W => W.cell? ⟨w.heap.size, 0, none⟩ = some (.pointer (some ⟨gp, 0, none⟩)) ∧ W.cell? ⟨w.heap.size, 1, none⟩ = some (.pointer none) ∧ After w4 W)) rfl ⟨o0, o1, After.rfl.draws 1⟩ (fun hHeld => ?_)
    refine' takeD (i := 0) (d := some 30) (v := _) rfl rfl (by kernel_rfl) (by kernel_rfl) (by kernel_rfl) (fun _ _ _ h => h) (by rfl) hHeld (fun w hSw => ?_) ?_
    rotate_left 1
    · (try dsimp only at hSw)
      go_simp
      try with_reducible rfl
    try simp only [Act.put, List.setIfInBounds_toArray, List.set_cons_zero, List.set_cons_succ]
    refine' takeD (i := 1) (d := some 31) (v := _) rfl rfl (by kernel_rfl) (by kernel_rfl) (by kernel_rfl) (fun _ _ _ h => h) (by rfl) hHeld (fun w hSw => ?_) ?_
    rotate_left 1
    · (try dsimp only at hSw)
      go_simp
      try with_reducible rfl
    try simp only [Act.put, List.setIfInBounds_toArray, List.set_cons_zero, List.set_cons_succ]
    refine' takeD (i := 2) (d := some 32) (v := _) rfl rfl (by kernel_rfl) (by kernel_rfl) (by kernel_rfl) (fun _ _ _ h => h) (by rfl) hHeld (fun w hSw => ?_) ?_
    rotate_left 1
    · (try dsimp only at hSw)
      go_simp
      try with_reducible rfl
    try simp only [Act.put, List.setIfInBounds_toArray, List.set_cons_zero, List.set_cons_succ]
    refine wpAnyH_ready (rs := [3]) (by kernel_rfl) (by simp) ?_
    refine AllReadyH.cons rfl (fun K hK => ?_) AllReadyH.nil
    go_simp
    refine (HLF.out _ hHeld.2.2).mono ?_
    rintro e w5 ⟨rfl, rfl⟩
    try go_wp2_with fail
    refine hK.out _ _ ?_ (fun hHeld3 => ?_)
    · exact hHeld
    clear hK K
    try simp only [Act.put, List.setIfInBounds_toArray, List.set_cons_zero, List.set_cons_succ]
    refine' takeD (i := 4) (d := some 34) (v := _) rfl rfl (by kernel_rfl) (by kernel_rfl) (by kernel_rfl) (fun _ _ _ h => h) (by rfl) hHeld3 (fun w hSw => ?_) ?_
    rotate_left 1
    · (try dsimp only at hSw)
      go_simp
      try with_reducible rfl
    try simp only [Act.put, List.setIfInBounds_toArray, List.set_cons_zero, List.set_cons_succ]
    refine wpAnyH_ready (rs := [5]) (by kernel_rfl) (by simp) ?_
    refine AllReadyH.cons rfl (fun K hK => ?_) AllReadyH.nil
    go_simp
    refine (must_yes _ (some ⟨gp, 0, none⟩) none).mono ?_
    rintro e w5 ⟨rfl, h6⟩
    try go_wp2_with fail
    refine hK.out _ _ ?_ (fun hHeld5 => ?_)
    · exact ⟨by rw [h6.cell (Nat.lt_of_lt_of_le HLT.out hHeld3.2.2.size)]; exact hHeld3.1, by rw [h6.cell (Nat.lt_of_lt_of_le HLT.out hHeld3.2.2.size)]; exact hHeld3.2.1, hHeld3.2.2.trans h6⟩
    clear hK K
    try simp only [Act.put, List.setIfInBounds_toArray, List.set_cons_zero, List.set_cons_succ]
    refine wpAnyH_done (by kernel_rfl) ?_ _
    have hcut := hHeld5.2.2
    clear hHeld hHeld3 hHeld5 h6
    obtain ⟨H, cd, kb, x, hP, hA, kc⟩ := HX.out
    obtain ⟨hE2, kc4, kb4, k24, k34, ki4, st4, hS3, hS2, hw2, hw3, hS3lt, hwi⟩ := HW.out
    have hE5 := hE2.trans (if_pos HNU.out)
    have ki5 := (But.block hcut _ hwi (fun t => t)).trans ki4
    have kb5 := kb4.after hcut
    have kc5 := kc4.after hcut
    have st5 := st4.after hcut
    have hw5 : w4.heap.size ≤ w5.heap.size := hcut.size
    have hS3o : ∀ j, S3 j → w.heap.size < j := fun j hj => by have := hS3 j hj; omega
    have xw5 : MsgX w5 P M sa sc oa oc ba bc := x.but st5.but (fun j hj => (hP j hj).1)
    have kbi : Keeps w5 S3 g (.cells (M.cells sa sc oa oc ba bc) 31 (0, 0)) := ⟨kb5.at0, fun h => by have := hS3o g h; omega⟩
    have H6 := hideIt (H w5 p3 none ys S3 y1 (k34.after hcut) kbi xw5 (fun j hj => ⟨fun h => by have := hS3o j h; have := (hP j hj).2; omega, Nat.lt_of_lt_of_le (hP j hj).2 st5.but.size⟩) (fun h => by cases h))
    obtain ⟨_, i0', i1', _, _⟩ := two_at ki5
    obtain ⟨_, o0', o1', _, _⟩ := two_at kc5.at0
    have HV := hideIt (And.intro hE5 (And.intro kc5 (And.intro kb5 (And.intro (k24.after hcut) (And.intro ki5 (And.intro st5 (And.intro hS3 (And.intro hS2 (And.intro hw2 (And.intro hw3 (And.intro hS3lt (And.intro hwi hw5))))))))))))
    clear H cd kb x hP hA kc hE2 kc4 kb4 k24 k34 ki4 st4 hS3 hS2 hw2 hw3 hS3lt hwi hE5 ki5 kb5 kc5 st5 hw5 hS3o xw5 kbi hcut HW HLF HLT o0 o1 q0 q1
    go_wp2_with fail
    refine H6.out.mono ?_
    clear H6
    intro e w6 h6
    obtain ⟨hE5, kc5, kb5, k25, ki5, st5, hS3, hS2, hw2, hw3, hS3lt, hwi, hw5⟩ := HV.out
    have bw : ∀ {W}, But (fun k => S3 k ∨ k = g) w5 W → But (fun k => S k ∨ k = g) w W := fun {W} t => (st5.but.mono (T := fun k => S k ∨ k = g) (fun _ _ h => .inl h)).then t (fun i hi h => h.elim (fun h => by have := hS3 i h; omega) .inr)
    rcases h6.split with ⟨c9, e6, rfl, t⟩ | ⟨X, rs, e6, rfl, hv, S6, k6, s6⟩
    · exact ⟨rfl, Ends.bad (hE5.trans (thn_bad e6)) ⟨rfl, bw t⟩⟩
    have hE6 := hE5.trans (thn_ok e6)
    have hS6 : ∀ j, S6 j → w2.heap.size ≤ j := fun j hj => (s6.new j hj).elim (hS3 j) (fun h => by omega)
    have kc6 := (s6.but.block _ kc5.lt (fun h => h.elim (fun h => by have := hS3 _ h; omega) (fun h => by omega))).trans kc5.at0
    have ki6 := (s6.but.block _ (Array.getElem?_eq_some_iff.1 ki5).1 (fun h => h.elim (fun h => by have := hS3lt _ h; omega) (fun h => by omega))).trans ki5
    have k26 : Cod w6 (some ⟨gp, 0, none⟩) none false us S2 := k25.but s6.but (fun j hj h => h.elim (fun h => by have := hS3 j h; have := hS2 j hj; omega) (fun h => kb5.out (by rw [← h]; exact hj)))
    obtain ⟨_, o0, o1, _, _⟩ := two_at kc6
    obtain ⟨_, i0, i1, _, _⟩ := two_at ki6
    have HLF := hideIt (fun W (hW : After w6 W) => c_left W p3 rs S6 (k6.after hW))
    have HLT := hideIt (And.intro (Array.getElem?_eq_some_iff.1 kc6).1 (Array.getElem?_eq_some_iff.1 ki6).1)
    have HU := hideIt (And.intro hE6 (And.intro hv (And.intro k26 (And.intro (bw s6.but) (And.intro (st5.new) st5.but.size)))))
    clear hE5 kc5 kb5 k25 ki5 st5 hS3 hS2 hw2 hw3 hS3lt hwi hw5 bw h6 e6 hv k6 s6 hE6 hS6 kc6 ki6 k26 HV i0' i1' o0' o1'
    obtain ⟨nr, hnr⟩ : ∃ nr, rs.length = nr := ⟨_, rfl⟩
    have HNR := hideIt hnr
    rw [hnr] at HLF
    clear hnr
    by_cases hr : nr = 0
    · subst hr
      go_wp2_with fail
      refine wp_region_held_drew (S := (fun W => W.cell? ⟨w.heap.size, 0, none⟩ = some (.pointer (some ⟨gp, 0, none⟩)) ∧ W.cell? ⟨w.heap.size, 1, none⟩ = some (.pointer none) ∧ W.cell? ⟨w3.heap.size, 0, none⟩ = some (.pointer p3) ∧ After w6 W)) rfl ⟨o0, o1, i0, After.rfl.draws 1⟩ (fun hHeld => ?_)
      refine' takeD (i := 0) (d := some 40) (v := _) rfl rfl (by kernel_rfl) (by kernel_rfl) (by kernel_rfl) (fun _ _ _ h => h) (by rfl) hHeld (fun w hSw => ?_) ?_
      rotate_left 1
      · (try dsimp only at hSw)
        go_simp
        try with_reducible rfl
      try simp only [Act.put, List.setIfInBounds_toArray, List.set_cons_zero, List.set_cons_succ]
      refine' takeD (i := 1) (d := some 41) (v := _) rfl rfl (by kernel_rfl) (by kernel_rfl) (by kernel_rfl) (fun _ _ _ h => h) (by rfl) hHeld (fun w hSw => ?_) ?_
      rotate_left 1
      · (try dsimp only at hSw)
        go_simp
        try with_reducible rfl
      try simp only [Act.put, List.setIfInBounds_toArray, List.set_cons_zero, List.set_cons_succ]
      refine' takeD (i := 2) (d := some 42) (v := _) rfl rfl (by kernel_rfl) (by kernel_rfl) (by kernel_rfl) (fun _ _ _ h => h) (by rfl) hHeld (fun w hSw => ?_) ?_
      rotate_left 1
      · (try dsimp only at hSw)
        go_simp
        try with_reducible rfl
      try simp only [Act.put, List.setIfInBounds_toArray, List.set_cons_zero, List.set_cons_succ]
      refine wpAnyH_ready (rs := [3]) (by kernel_rfl) (by simp) ?_
      refine AllReadyH.cons rfl (fun K hK => ?_) AllReadyH.nil
      go_simp
      refine (HLF.out _ hHeld.2.2.2).mono ?_
      rintro e w7 ⟨rfl, rfl⟩
      try go_wp2_with fail
      refine hK.out _ _ ?_ (fun hHeld3 => ?_)
      · exact hHeld
      clear hK K
      try simp only [Act.put, List.setIfInBounds_toArray, List.set_cons_zero, List.set_cons_succ]
      refine' takeD (i := 4) (d := some 44) (v := _) rfl rfl (by kernel_rfl) (by kernel_rfl) (by kernel_rfl) (fun _ _ _ h => h) (by rfl) hHeld3 (fun w hSw => ?_) ?_
      rotate_left 1
      · (try dsimp only at hSw)
        go_simp
        try with_reducible rfl
      try simp only [Act.put, List.setIfInBounds_toArray, List.set_cons_zero, List.set_cons_succ]
      refine wpAnyH_ready (rs := [5]) (by kernel_rfl) (by simp) ?_
      refine AllReadyH.cons rfl (fun K hK => ?_) AllReadyH.nil
      go_simp
      refine (must_yes _ (some ⟨gp, 0, none⟩) none).mono ?_
      rintro e w8 ⟨rfl, h8⟩
      try go_wp2_with fail
      refine hK.out _ _ ?_ (fun hHeld5 => ?_)
      · exact ⟨by rw [h8.cell (Nat.lt_of_lt_of_le HLT.out.1 hHeld3.2.2.2.size)]; exact hHeld3.1, by rw [h8.cell (Nat.lt_of_lt_of_le HLT.out.1 hHeld3.2.2.2.size)]; exact hHeld3.2.1, by rw [h8.cell (Nat.lt_of_lt_of_le HLT.out.2 hHeld3.2.2.2.size)]; exact hHeld3.2.2.1, hHeld3.2.2.2.trans h8⟩
      clear hK K
      try simp only [Act.put, List.setIfInBounds_toArray, List.set_cons_zero, List.set_cons_succ]
      refine wpAnyH_done (by kernel_rfl) ?_ _
      have hcut := hHeld5.2.2.2
      clear hHeld hHeld3 hHeld5 h8
      have HT := hideIt hcut
      clear hcut
      try simp only [Act.put, List.setIfInBounds_toArray, List.set_cons_zero, List.set_cons_succ]
      go_wp2_with fail
      first | go_end0 | refine bodyPost_ret (results_none rfl _ _ _) rfl ?_
      have hcut := HT.out
      obtain ⟨hE6, ⟨xa, xc, ya, yc, za, zc, hv, hvr⟩, k26, b6, hnew, hsz⟩ := HU.out
      refine Ends.ok (hE6.trans (if_pos HNR.out)) ⟨rfl, ⟨xa, xc, ya, yc, za, zc, (But.block hcut _ (Array.getElem?_eq_some_iff.1 hv).1 (fun t => t)).trans hv, fun hm => ⟨((hvr hm).1.after hcut).mono (fun j hj => hj.imp_right (fun h => Nat.le_trans hsz h)), own_base (own_after (hvr hm).2 hcut) (fun j hj => Nat.le_trans hsz ((hvr hm).2.lt j hj).1)⟩⟩, S2, k26.after hcut, b6.trans hcut.but, hnew⟩
    · have hr' : ((nr : Int) == 0) = false := by simpa using (show ¬ (nr : Int) = 0 by omega)
      go_wp2_with fail
      refine wp_region_held_drew (S := (fun W => W.cell? ⟨w.heap.size, 0, none⟩ = some (.pointer (some ⟨gp, 0, none⟩)) ∧ W.cell? ⟨w.heap.size, 1, none⟩ = some (.pointer none) ∧ W.cell? ⟨w3.heap.size, 0, none⟩ = some (.pointer p3) ∧ After w6 W)) rfl ⟨o0, o1, i0, After.rfl.draws 1⟩ (fun hHeld => ?_)
      refine' takeD (i := 0) (d := some 40) (v := _) rfl rfl (by kernel_rfl) (by kernel_rfl) (by kernel_rfl) (fun _ _ _ h => h) (by rfl) hHeld (fun w hSw => ?_) ?_
      rotate_left 1
      · (try dsimp only at hSw)
        go_simp
        try with_reducible rfl
      try simp only [Act.put, List.setIfInBounds_toArray, List.set_cons_zero, List.set_cons_succ]
      refine' takeD (i := 1) (d := some 41) (v := _) rfl rfl (by kernel_rfl) (by kernel_rfl) (by kernel_rfl) (fun _ _ _ h => h) (by rfl) hHeld (fun w hSw => ?_) ?_
      rotate_left 1
      · (try dsimp only at hSw)
        go_simp
        try with_reducible rfl
      try simp only [Act.put, List.setIfInBounds_toArray, List.set_cons_zero, List.set_cons_succ]
      refine' takeD (i := 2) (d := some 42) (v := _) rfl rfl (by kernel_rfl) (by kernel_rfl) (by kernel_rfl) (fun _ _ _ h => h) (by rfl) hHeld (fun w hSw => ?_) ?_
      rotate_left 1
      · (try dsimp only at hSw)
        go_simp
        try with_reducible rfl
      try simp only [Act.put, List.setIfInBounds_toArray, List.set_cons_zero, List.set_cons_succ]
      refine wpAnyH_ready (rs := [3]) (by kernel_rfl) (by simp) ?_
      refine AllReadyH.cons rfl (fun K hK => ?_) AllReadyH.nil
      go_simp
      refine (HLF.out _ hHeld.2.2.2).mono ?_
      rintro e w7 ⟨rfl, rfl⟩
      try go_wp2_with fail
      refine hK.out _ _ ?_ (fun hHeld3 => ?_)
      · exact hHeld
      clear hK K
      try simp only [Act.put, List.setIfInBounds_toArray, List.set_cons_zero, List.set_cons_succ]
      refine' takeD (i := 4) (d := some 44) (v := _) rfl rfl (by kernel_rfl) (by kernel_rfl) (by kernel_rfl) (fun _ _ _ h => h) (by rfl) hHeld3 (fun w hSw => ?_) ?_
      rotate_left 1
      · (try dsimp only at hSw)
        go_simp
        try with_reducible rfl
      try simp only [Act.put, List.setIfInBounds_toArray, List.set_cons_zero, List.set_cons_succ]
      refine wpAnyH_ready (rs := [5]) (by kernel_rfl) (by simp) ?_
      refine AllReadyH.cons rfl (fun K hK => ?_) AllReadyH.nil
      go_simp
      refine (must_no _ (some ⟨gp, 0, none⟩) none).mono ?_
      rintro e w8 ⟨rfl, h8⟩
      exact ⟨rfl, Ends.bad (HU.out.1.trans (if_neg (by rw [HNR.out]; exact hr))) ⟨rfl, HU.out.2.2.2.1.trans (hHeld3.2.2.2.trans h8).but⟩⟩
  · have hu' : ((nu : Int) == 0) = false := by simpa using (show ¬ (nu : Int) = 0 by omega)
    go_wp2_with fail
    rw [HW4.out]
    refine wp_region_held_drew (S := (fun W => W.cell? ⟨w.heap.size, 0, none⟩ = some (.pointer (some ⟨gp, 0, none⟩)) ∧ W.cell? ⟨w.heap.size, 1, none⟩ = some (.pointer none) ∧ After w4 W)) rfl ⟨o0, o1, After.rfl.draws 1⟩ (fun hHeld => ?_)
    refine' takeD (i := 0) (d := some 30) (v := _) rfl rfl (by kernel_rfl) (by kernel_rfl) (by kernel_rfl) (fun _ _ _ h => h) (by rfl) hHeld (fun w hSw => ?_) ?_
    rotate_left 1
    · (try dsimp only at hSw)
      go_simp
      try with_reducible rfl
    try simp only [Act.put, List.setIfInBounds_toArray, List.set_cons_zero, List.set_cons_succ]
    refine' takeD (i := 1) (d := some 31) (v := _) rfl rfl (by kernel_rfl) (by kernel_rfl) (by kernel_rfl) (fun _ _ _ h => h) (by rfl) hHeld (fun w hSw => ?_) ?_
    rotate_left 1
    · (try dsimp only at hSw)
      go_simp
      try with_reducible rfl
    try simp only [Act.put, List.setIfInBounds_toArray, List.set_cons_zero, List.set_cons_succ]
    refine' takeD (i := 2) (d := some 32) (v := _) rfl rfl (by kernel_rfl) (by kernel_rfl) (by kernel_rfl) (fun _ _ _ h => h) (by rfl) hHeld (fun w hSw => ?_) ?_
    rotate_left 1
    · (try dsimp only at hSw)
      go_simp
      try with_reducible rfl
    try simp only [Act.put, List.setIfInBounds_toArray, List.set_cons_zero, List.set_cons_succ]
    refine wpAnyH_ready (rs := [3]) (by kernel_rfl) (by simp) ?_
    refine AllReadyH.cons rfl (fun K hK => ?_) AllReadyH.nil
    go_simp
    refine (HLF.out _ hHeld.2.2).mono ?_
    rintro e w5 ⟨rfl, rfl⟩
    try go_wp2_with fail
    refine hK.out _ _ ?_ (fun hHeld3 => ?_)
    · exact hHeld
    clear hK K
    try simp only [Act.put, List.setIfInBounds_toArray, List.set_cons_zero, List.set_cons_succ]
    refine' takeD (i := 4) (d := some 34) (v := _) rfl rfl (by kernel_rfl) (by kernel_rfl) (by kernel_rfl) (fun _ _ _ h => h) (by rfl) hHeld3 (fun w hSw => ?_) ?_
    rotate_left 1
    · (try dsimp only at hSw)
      go_simp
      try with_reducible rfl
    try simp only [Act.put, List.setIfInBounds_toArray, List.set_cons_zero, List.set_cons_succ]
    refine wpAnyH_ready (rs := [5]) (by kernel_rfl) (by simp) ?_
    refine AllReadyH.cons rfl (fun K hK => ?_) AllReadyH.nil
    go_simp
    refine (must_no _ (some ⟨gp, 0, none⟩) none).mono ?_
    rintro e w8 ⟨rfl, h8⟩
    exact ⟨rfl, Ends.bad (HW.out.1.trans (if_neg (by rw [HNU.out]; exact hu))) ⟨rfl, (HW.out.2.2.2.2.2.2.1.but.mono (fun _ _ h => .inl h)).trans (hHeld3.2.2.trans h8).but⟩⟩
end Go.Proofs.YthcfdoafncbliaaGreat
/-
  A whole message, by a coder.
-/
namespace Go.Proofs.YthcfdoafncbliaaGreat
open Go.RowKit
set_option maxRecDepth 8000
/-- The kind that stands first. -/
def outer (k : Int) : Int := if inData k = true then 59136 else k
def msgF (m : Bool) (M : Msg) (zs : List Int) : Except Int (Msg × List Int) :=
  if m then partW (insD true M) (outer M.kind) zs else partR (insD false M) (outer M.kind) zs
/-- What a message that was gone through answers. -/
def Mess (w w' : World) (m : Bool) (e : Ending) (P : Nat → Prop) (X : Msg) : Prop :=
  ∃ sa sc oa oc ba bc, e = .returned (X.val sa sc oa oc ba bc) ∧ (m = false → MsgX w' (fun k => P k ∨ w.heap.size ≤ k) X sa sc oa oc ba bc ∧ w'.ownsRow w.heap.size 5 1 (.slice sa X.sys.length sc) X.sys.length (u8s X.sys))
set_option maxHeartbeats 1000000 in
theorem c_message (w : World) (p q : Option Addr) (m : Bool) (zs : List Int) (S P : Nat → Prop) (M : Msg) (sa : Option Addr) (sc : Nat) (oa : Option Addr) (oc : Nat) (ba : Option Addr) (bc : Nat) (cd : Cod w p q m zs S) (x : MsgX w P M sa sc oa oc ba bc) (hP : ∀ k, P k → ¬ S k ∧ k < w.heap.size) (hl : m = true → zs.length ≤ 900000000) :
    Calls Tryz.prog 40 #[Co p q, M.val sa sc oa oc ba bc] w fun e w' => Ends (msgF m M zs) (fun X us => Mess w w' m e P X ∧ Went w w' p q m S us) (fun c => e = .panicked (Halt c) ∧ But S w w') := by
  have hmf : ∀ (fn : Fn) (first cap : Array Value) (w : World), (Instr.makeFunc fn first cap).run Tryz.prog w = .ok (.func fn first cap) w := fun _ _ _ _ => rfl
  obtain ⟨W0, hW0⟩ : ∃ W0, ((w.alloc (.cells #[.pointer p, .pointer q] 79)).alloc (.cells (M.cells sa sc oa oc ba bc) 31)).alloc (.cells #[.int .i64 0, .slice none 0 0, .int .i64 0, .int .i64 0, .int .i64 0, .slice none 0 0, .slice none 0 0] 31) = W0 := ⟨_, rfl⟩
  have hA : After w W0 := by rw [← hW0]; exact ((After.rfl.alloc _).alloc _).alloc _
  obtain ⟨b0, b1, b2⟩ := new3 w (.cells #[.pointer p, .pointer q] 79) (.cells (M.cells sa sc oa oc ba bc) 31) (.cells #[.int .i64 0, .slice none 0 0, .int .i64 0, .int .i64 0, .int .i64 0, .slice none 0 0, .slice none 0 0] 31)
  rw [hW0] at b0 b1 b2
  have hsz : W0.heap.size = w.heap.size + 3 := by rw [← hW0, World.size_alloc, World.size_alloc, World.size_alloc]
  have hP1 : ∀ k, P k → ¬ S k ∧ k < W0.heap.size := fun k hk => ⟨(hP k hk).1, Nat.lt_of_lt_of_le (hP k hk).2 hA.size⟩
  have hg : ¬ P (w.heap.size + 1) := fun h => by have := (hP _ h).2; omega
  have kb : Keeps W0 S (w.heap.size + 1) (.cells (M.cells sa sc oa oc ba bc) 31 (0, 0)) := ⟨b1, fun h => absurd (cd.lt _ h) (by omega)⟩
  have hlt := cd.lt
  have H1 : Hid (Calls Tryz.prog 58 #[Co p q, .int .i64 (outer M.kind), .func (.func 59) #[] #[Ptr (w.heap.size + 1)]] W0 fun e w' => Ends (msgF m M zs) (fun X us => e = .returned (.tuple #[]) ∧ VarsC W0 w' m (w.heap.size + 1) P X ∧ ∃ S', Cod w' p q m us S' ∧ StpV S (w.heap.size + 1) W0 S' w') (fun c => e = .panicked (Halt c) ∧ But (fun k => S k ∨ k = w.heap.size + 1) W0 w')) := by
    cases m with
    | true =>
      obtain rfl : p = none := by
        rcases cd.is with ⟨h, _⟩ | ⟨_, g', v, e, _⟩
        · cases h
        · exact e
      exact part_w41 W0 q zs S P _ (outer M.kind) M sa sc oa oc ba bc _ (clo41 _ true P M sa sc oa oc ba bc hg) (cd.after hA) kb (x.after hA) hP1 (hl rfl) (fun X bs e => insD_len e rfl)
    | false =>
      obtain rfl : q = none := by
        rcases cd.is with ⟨_, g', v, _, e, _⟩ | ⟨h, _⟩
        · exact e
        · cases h
      exact part_r41 W0 p zs S P _ (outer M.kind) M sa sc oa oc ba bc _ (clo41 _ false P M sa sc oa oc ba bc hg) (cd.after hA) kb (x.after hA) hP1
  have HD := hideIt (fun W => inData_any W M.kind)
  have HX := hideIt (And.intro hA (And.intro b2 (And.intro hsz (And.intro hlt hg))))
  have HO : Hid (∀ b, inData M.kind = b → outer M.kind = if b = true then 59136 else M.kind) := fun b hb => by unfold outer; rw [hb]
  have HW0 := hideIt hW0
  have HPP := hideIt hP
  unfold Msg.val
  unfold Msg.cells at HW0
  obtain ⟨mk, ms, mc, mr, mq, mo, mb⟩ := M
  dsimp only at HD H1 HO HW0 ⊢
  clear hA b0 b1 b2 hsz hP1 hg kb cd x hP hl hW0 hlt
  obtain ⟨d, hd⟩ : ∃ d, inData mk = d := ⟨_, rfl⟩
  have ho := HO.out d hd
  rw [hd] at HD
  rw [ho] at H1
  clear hd ho HO
  cases d with
  | true =>
    go_enter Tryz.func40, Tryz.ntmps40
    go_wp2_with (go_at_call 35; refine (HD.out _).mono ?_; rintro e w9 ⟨rfl, rfl⟩)
    rw [HW0.out]
    refine H1.out.mono ?_
    clear H1
    intro e w1 h1
    obtain ⟨hA, b2, hsz, hlt, hg⟩ := HX.out
    have bw : ∀ {W}, But (fun k => S k ∨ k = w.heap.size + 1) W0 W → But S w W := fun {W} t => hA.but.then t (fun i hi h => h.elim id (fun h => by omega))
    rcases h1.split with ⟨c9, e1, rfl, t⟩ | ⟨X, us, e1, rfl, ⟨xa, xc, ya, yc, za, zc, hv, hvr⟩, S', k', s'⟩
    · exact ⟨rfl, Ends.bad e1 ⟨rfl, bw t⟩⟩
    have b21 := (s'.but.block _ (by omega) (fun h => h.elim (fun h => by have := hlt _ h; omega) (fun h => by omega))).trans b2
    unfold Msg.cells at hv
    obtain ⟨_, ⟨c0, c1, c2, c3, c4, c5, c6⟩, _⟩ := seven_at hv
    obtain ⟨_, ⟨z0, z1, z2, z3, z4, z5, z6⟩, ⟨f0, f1, f2, f3, f4, f5, f6⟩⟩ := seven_at b21
    have ho2 : ¬ S' (w.heap.size + 1 + 1) := fun h => (s'.new _ h).elim (fun h => by have := hlt _ h; omega) (fun h => by omega)
    have HY := hideIt (And.intro e1 (And.intro hvr (And.intro k' (And.intro (show Stp S w S' w1 from ⟨bw s'.but, fun k hk => (s'.new k hk).imp_right (fun h => Nat.le_trans hA.size h)⟩) (And.intro hsz ho2)))))
    have HG := hideIt (show ∀ k, P k ∨ W0.heap.size ≤ k → k ≠ w.heap.size + 1 + 1 from fun k hk e => by
      subst e
      exact hk.elim (fun h => by have := (HPP.out _ h).2; omega) (fun h => by omega))
    clear hA b2 hsz hlt hg bw h1 e1 hv hvr k' s' b21 ho2 HX HW0 HD
    obtain ⟨Xk, Xs, Xc, Xr, Xq, Xo, Xb⟩ := X
    dsimp only at c0 c1 c2 c3 c4 c5 c6
    go_wp2_with fail
    obtain ⟨e1, hvr, k', s', hsz, ho2⟩ := HY.out
    refine bodyPost_ret (v := .agg #[.int .i64 Xk, .slice xa Xs.length xc, .int .i64 Xc, .int .i64 Xr, .int .i64 Xq, .slice ya Xo.length yc, .slice za Xb.length zc]) (by simp [results, Tryz.results40, go_sem, z0, z1, z2, z3, z4, z5, z6]) rfl (Ends.ok e1 ⟨⟨xa, xc, ya, yc, za, zc, rfl, fun hm => ⟨?_, ?_⟩⟩, S', ?_, ?_⟩)
    · refine ((hvr hm).1.but (T := One (w.heap.size + 1 + 1)) ?_ (fun k hk e => HG.out k hk e)).mono (fun k hk => hk.imp_right (fun h => by omega))
      iterate 7 refine But.set (S := One (w.heap.size + 1 + 1)) ?_ ⟨w.heap.size + 1 + 1, _, none⟩ (fun _ => Eq.refl _) _
      exact But.rfl
    · refine own_base (own_but (S := One (w.heap.size + 1 + 1)) (hvr hm).2 ?_ (fun k hk e => HG.out k (.inr ((hvr hm).2.lt k hk).1) e)) (fun k hk => Nat.le_trans (by omega) ((hvr hm).2.lt k hk).1)
      iterate 7 refine But.set (S := One (w.heap.size + 1 + 1)) ?_ ⟨w.heap.size + 1 + 1, _, none⟩ (fun _ => Eq.refl _) _
      exact But.rfl
    · iterate 7 refine Cod.set ?_ ho2 _ _
      exact k'
    · iterate 7 refine Stp.newly ?_ (by omega) _ _
      exact s'
  | false =>
    go_enter Tryz.func40, Tryz.ntmps40
    go_wp2_with (go_at_call 35; refine (HD.out _).mono ?_; rintro e w9 ⟨rfl, rfl⟩)
    rw [HW0.out]
    refine H1.out.mono ?_
    clear H1
    intro e w1 h1
    obtain ⟨hA, b2, hsz, hlt, hg⟩ := HX.out
    have bw : ∀ {W}, But (fun k => S k ∨ k = w.heap.size + 1) W0 W → But S w W := fun {W} t => hA.but.then t (fun i hi h => h.elim id (fun h => by omega))
    rcases h1.split with ⟨c9, e1, rfl, t⟩ | ⟨X, us, e1, rfl, ⟨xa, xc, ya, yc, za, zc, hv, hvr⟩, S', k', s'⟩
    · exact ⟨rfl, Ends.bad e1 ⟨rfl, bw t⟩⟩
    have b21 := (s'.but.block _ (by omega) (fun h => h.elim (fun h => by have := hlt _ h; omega) (fun h => by omega))).trans b2
    unfold Msg.cells at hv
    obtain ⟨_, ⟨c0, c1, c2, c3, c4, c5, c6⟩, _⟩ := seven_at hv
    obtain ⟨_, ⟨z0, z1, z2, z3, z4, z5, z6⟩, ⟨f0, f1, f2, f3, f4, f5, f6⟩⟩ := seven_at b21
    have ho2 : ¬ S' (w.heap.size + 1 + 1) := fun h => (s'.new _ h).elim (fun h => by have := hlt _ h; omega) (fun h => by omega)
    have HY := hideIt (And.intro e1 (And.intro hvr (And.intro k' (And.intro (show Stp S w S' w1 from ⟨bw s'.but, fun k hk => (s'.new k hk).imp_right (fun h => Nat.le_trans hA.size h)⟩) (And.intro hsz ho2)))))
    have HG := hideIt (show ∀ k, P k ∨ W0.heap.size ≤ k → k ≠ w.heap.size + 1 + 1 from fun k hk e => by
      subst e
      exact hk.elim (fun h => by have := (HPP.out _ h).2; omega) (fun h => by omega))
    clear hA b2 hsz hlt hg bw h1 e1 hv hvr k' s' b21 ho2 HX HW0 HD
    obtain ⟨Xk, Xs, Xc, Xr, Xq, Xo, Xb⟩ := X
    dsimp only at c0 c1 c2 c3 c4 c5 c6
    go_wp2_with fail
    obtain ⟨e1, hvr, k', s', hsz, ho2⟩ := HY.out
    refine bodyPost_ret (v := .agg #[.int .i64 Xk, .slice xa Xs.length xc, .int .i64 Xc, .int .i64 Xr, .int .i64 Xq, .slice ya Xo.length yc, .slice za Xb.length zc]) (by simp [results, Tryz.results40, go_sem, z0, z1, z2, z3, z4, z5, z6]) rfl (Ends.ok e1 ⟨⟨xa, xc, ya, yc, za, zc, rfl, fun hm => ⟨?_, ?_⟩⟩, S', ?_, ?_⟩)
    · refine ((hvr hm).1.but (T := One (w.heap.size + 1 + 1)) ?_ (fun k hk e => HG.out k hk e)).mono (fun k hk => hk.imp_right (fun h => by omega))
      iterate 7 refine But.set (S := One (w.heap.size + 1 + 1)) ?_ ⟨w.heap.size + 1 + 1, _, none⟩ (fun _ => Eq.refl _) _
      exact But.rfl
    · refine own_base (own_but (S := One (w.heap.size + 1 + 1)) (hvr hm).2 ?_ (fun k hk e => HG.out k (.inr ((hvr hm).2.lt k hk).1) e)) (fun k hk => Nat.le_trans (by omega) ((hvr hm).2.lt k hk).1)
      iterate 7 refine But.set (S := One (w.heap.size + 1 + 1)) ?_ ⟨w.heap.size + 1 + 1, _, none⟩ (fun _ => Eq.refl _) _
      exact But.rfl
    · iterate 7 refine Cod.set ?_ ho2 _ _
      exact k'
    · iterate 7 refine Stp.newly ?_ (by omega) _ _
      exact s'
end Go.Proofs.YthcfdoafncbliaaGreat
/-
  What was thrown is caught.
-/
namespace Go.Proofs.YthcfdoafncbliaaGreat
open Go.RowKit
set_option maxRecDepth 8000
theorem catch_idle (p : Addr) (w : World) :
    CallsD Tryz.prog 57 #[.pointer (some p)] .returning w fun e u' w' => e = .returned (.tuple #[]) ∧ u' = .returning ∧ w' = w := by
  refine callsD_of_wpS Tryz.func57 rfl fun c₀ cs hu => ?_
  apply wpS_seq
  apply wpS_region
  simp [wpOpsS, go_sem, recoverD, hu, Tryz.ntmps57, Exit.thenS]
  refine wpS_of_wp ?_
  go_wp2
  cases c₀
  simp_all [bodyPostS, results, Tryz.results57]
theorem set_there {w : World} {g : Nat} {x v : Value} {T : TypeId} (h : w.heap[g]? = some (.cells #[x] T (0, 0))) : (w.setCell ⟨g, 0, none⟩ v).cell? ⟨g, 0, none⟩ = some v := by
  simp [World.setCell, World.cell?, Array.getElem?_modify, h]
theorem is_halt (c : Int) (w : World) : (Instr.typeAssert (.iface 94 (.agg #[.int .i64 c])) 20 94 true).run Tryz.prog w = .ok (.tuple #[.agg #[.int .i64 c], .bool true]) w := by
  simp [Instr.typeAssert, go_sem]
set_option maxHeartbeats 400000 in
theorem catch_halt (g : Nat) (x c : Int) (w : World) (hg : g < w.heap.size) (hc : w.cell? ⟨g, 0, none⟩ = some (.int .i64 x)) (hz : w.frozen? ⟨g, 0, none⟩ = false) :
    CallsD Tryz.prog 57 #[.pointer (some ⟨g, 0, none⟩)] (.panicking (Halt c)) w fun e u' w' =>
      e = .returned (.tuple #[]) ∧ u' = .panicking [{ v := .iface 94 (.agg #[.int .i64 c]), recovered := true }] ∧ w' = (w.alloc (.cells #[.int .i64 c] 94)).setCell ⟨g, 0, none⟩ (.int .i64 c) := by
  refine callsD_of_wpS Tryz.func57 rfl fun c₀ cs hu => ?_
  apply wpS_seq
  apply wpS_region
  unfold Halt at hu
  simp [wpOpsS, go_sem, recoverD, hu, Tryz.ntmps57, Exit.thenS]
  refine wpS_of_wp (Code.wp_mono (Q := fun e a w' => e = .normal ∧ a.defers = [] ∧ w' = (w.alloc (.cells #[.int .i64 c] 94)).setCell ⟨g, 0, none⟩ (.int .i64 c)) ?_ ?_)
  · rintro e a w' ⟨rfl, hd, rfl⟩
    exact ⟨hd, _, rfl, .tuple #[], by simp [results, Tryz.results57], rfl, rfl, rfl⟩
  clear hu
  rw [show (#[Value.pointer (some ⟨g, 0, none⟩)] ++ (Array.replicate 11 undef).setIfInBounds 3 (Value.iface 94 (Value.agg #[Value.int IntKind.i64 c]))) = #[Value.pointer (some ⟨g, 0, none⟩), undef, undef, undef, Value.iface 94 (Value.agg #[Value.int IntKind.i64 c]), undef, undef, undef, undef, undef, undef, undef] from rfl]
  have hne : ¬ g = w.heap.size := by omega
  go_wp2
  rw [is_halt]
  go_wp2
theorem caught_any (w : World) (f : Nat) (cap : Array Value) (R : World → Prop) (B : Int → World → Prop) (hin : ∀ (c : Array Value) (w : World), (callFunc f c).run Tryz.prog w = .ok (.enter f c) w) (H : Calls Tryz.prog f cap (w.alloc (.cells #[.int .i64 0] 34)) fun e w' => w'.heap[w.heap.size]? = some (.cells #[.int .i64 0] 34 (0, 0)) ∧ (e = .returned (.tuple #[]) ∧ R w' ∨ ∃ c, e = .panicked (Halt c) ∧ B c w')) :
    Calls Tryz.prog 37 #[.func (.func f) #[] cap] w fun e w' => ∃ w1, (e = .returned (.int .i64 0) ∧ R w1 ∧ w' = w1.setCell ⟨w.heap.size, 0, none⟩ (.int .i64 0)) ∨ ∃ c, e = .returned (.int .i64 c) ∧ B c w1 ∧ w' = (w1.alloc (.cells #[.int .i64 c] 94)).setCell ⟨w.heap.size, 0, none⟩ (.int .i64 c) := by
  have hmf : ∀ (fn : Fn) (first cap : Array Value) (w : World), (Instr.makeFunc fn first cap).run Tryz.prog w = .ok (.func fn first cap) w := fun _ _ _ _ => rfl
  have H1 := hideIt H
  clear H
  go_enter_defers Tryz.func37, Tryz.ntmps37
  go_wp2_with (simp only [hin])
  refine H1.out.mono ?_
  clear H1
  rintro e w1 ⟨hb, ⟨rfl, hR⟩ | ⟨c, rfl, hB⟩⟩
  · have HR := hideIt (show ∃ w', w' = w1 ∧ R w' from ⟨w1, rfl, hR⟩)
    have hc0 : w1.cell? ⟨w.heap.size, 0, none⟩ = some (.int .i64 0) := by simp [World.cell?, hb]
    have hf0 : w1.frozen? ⟨w.heap.size, 0, none⟩ = false := by simp [World.frozen?, hb]
    clear hb hR
    go_wp2
    refine leaves_cons (f := 57) (args := #[.pointer (some ⟨w.heap.size, 0, none⟩)]) (by simp) (by simp [go_sem]) ?_
    refine (catch_idle ⟨w.heap.size, 0, none⟩ _).mono ?_
    rintro e u' w'' ⟨rfl, rfl, rfl⟩
    obtain ⟨_, rfl, hR⟩ := HR.out
    simp only [Leaves, settle]
    exact ⟨.int .i64 0, by simp [results, Tryz.results37, go_sem, hc0], _, .inl ⟨rfl, hR, rfl⟩⟩
  · have hc0 : w1.cell? ⟨w.heap.size, 0, none⟩ = some (.int .i64 0) := by simp [World.cell?, hb]
    have hf0 : w1.frozen? ⟨w.heap.size, 0, none⟩ = false := by simp [World.frozen?, hb]
    refine leaves_cons (f := 57) (args := #[.pointer (some ⟨w.heap.size, 0, none⟩)]) (by simp) (by simp [go_sem]) ?_
    refine (catch_halt w.heap.size 0 c _ (Array.getElem?_eq_some_iff.1 hb).1 hc0 hf0).mono ?_
    rintro e u' w'' ⟨rfl, rfl, rfl⟩
    simp only [settle, List.dropWhile_nil, Leaves]
    exact ⟨.int .i64 c, by simp [results, Tryz.results37, go_sem, set_there ((But.block (After.rfl.alloc (.cells #[.int .i64 c] 94)) w.heap.size (Array.getElem?_eq_some_iff.1 hb).1 (fun t => t)).trans hb)], _, .inr ⟨c, rfl, hB, rfl⟩⟩
end Go.Proofs.YthcfdoafncbliaaGreat
/-
  What Unpack does with a coder: the message is read into a variable.
-/
namespace Go.Proofs.YthcfdoafncbliaaGreat
open Go.RowKit
set_option maxRecDepth 8000
/-- A variable that holds a message that was read. -/
def Read (w w' : World) (g : Nat) (X : Msg) : Prop :=
  ∃ sa sc oa oc ba bc, w'.heap[g]? = some (.cells (X.cells sa sc oa oc ba bc) 31 (0, 0)) ∧ MsgX w' (fun k => w.heap.size ≤ k) X sa sc oa oc ba bc ∧ w'.ownsRow w.heap.size 5 1 (.slice sa X.sys.length sc) X.sys.length (u8s X.sys)
end Go.Proofs.YthcfdoafncbliaaGreat
/-
  Whether nothing of a message was left out.
-/
namespace Go.Proofs.YthcfdoafncbliaaGreat
open Go.RowKit
set_option maxRecDepth 8000
def sameB (s s' : Nat) (c c' r r' q q' : Int) (o o' b b' : Nat) : Bool := decide (s = s' ∧ c = c' ∧ r = r' ∧ q = q' ∧ o = o' ∧ b = b')
set_option maxHeartbeats 1000000 in
theorem same25 (w : World) (k k' : Int) (sa sa' oa oa' ba ba' : Option Addr) (s s' sc sc' : Nat) (c c' r r' q q' : Int) (o o' oc oc' b b' bc bc' : Nat) :
    Calls Tryz.prog 39 #[.agg #[.int .i64 k, .slice sa s sc, .int .i64 c, .int .i64 r, .int .i64 q, .slice oa o oc, .slice ba b bc], .agg #[.int .i64 k', .slice sa' s' sc', .int .i64 c', .int .i64 r', .int .i64 q', .slice oa' o' oc', .slice ba' b' bc']] w fun e w' => e = .returned (.bool (sameB s s' c c' r r' q q' o o' b b')) ∧ After w w' := by
  have HA := hideIt (After.rfl (w := w))
  obtain ⟨f, hf⟩ : ∃ f, sameB s s' c c' r r' q q' o o' b b' = f := ⟨_, rfl⟩
  unfold sameB at hf
  rw [show sameB s s' c c' r r' q q' o o' b b' = f from hf]
  by_cases h0 : s = s'
  rotate_left
  · have k0 : (((s : Nat) : Int) == ((s' : Nat) : Int)) = false := by simpa using (fun e => h0 (by omega))
    obtain rfl : f = false := by rw [← hf]; exact decide_eq_false (fun t => h0 t.1)
    clear hf h0
    go_enter Tryz.func39, Tryz.ntmps39
    go_wp2_with fail
    go_ret
    exact ⟨rfl, (HA.out.alloc _).alloc _⟩
  subst h0
  by_cases h1 : c = c'
  rotate_left
  · have k1 : (c == c') = false := by simpa using (fun e => h1 (by omega))
    obtain rfl : f = false := by rw [← hf]; exact decide_eq_false (fun t => h1 t.2.1)
    clear hf h1
    go_enter Tryz.func39, Tryz.ntmps39
    go_wp2_with fail
    go_ret
    exact ⟨rfl, (HA.out.alloc _).alloc _⟩
  subst h1
  by_cases h2 : r = r'
  rotate_left
  · have k2 : (r == r') = false := by simpa using (fun e => h2 (by omega))
    obtain rfl : f = false := by rw [← hf]; exact decide_eq_false (fun t => h2 t.2.2.1)
    clear hf h2
    go_enter Tryz.func39, Tryz.ntmps39
    go_wp2_with fail
    go_ret
    exact ⟨rfl, (HA.out.alloc _).alloc _⟩
  subst h2
  by_cases h3 : q = q'
  rotate_left
  · have k3 : (q == q') = false := by simpa using (fun e => h3 (by omega))
    obtain rfl : f = false := by rw [← hf]; exact decide_eq_false (fun t => h3 t.2.2.2.1)
    clear hf h3
    go_enter Tryz.func39, Tryz.ntmps39
    go_wp2_with fail
    go_ret
    exact ⟨rfl, (HA.out.alloc _).alloc _⟩
  subst h3
  by_cases h4 : o = o'
  rotate_left
  · have k4 : (((o : Nat) : Int) == ((o' : Nat) : Int)) = false := by simpa using (fun e => h4 (by omega))
    obtain rfl : f = false := by rw [← hf]; exact decide_eq_false (fun t => h4 t.2.2.2.2.1)
    clear hf h4
    go_enter Tryz.func39, Tryz.ntmps39
    go_wp2_with fail
    go_ret
    exact ⟨rfl, (HA.out.alloc _).alloc _⟩
  subst h4
  by_cases h5 : b = b'
  rotate_left
  · have k5 : (((b : Nat) : Int) == ((b' : Nat) : Int)) = false := by simpa using (fun e => h5 (by omega))
    obtain rfl : f = false := by rw [← hf]; exact decide_eq_false (fun t => h5 t.2.2.2.2.2)
    clear hf h5
    go_enter Tryz.func39, Tryz.ntmps39
    go_wp2_with fail
    go_ret
    exact ⟨rfl, (HA.out.alloc _).alloc _⟩
  subst h5
  obtain rfl : f = true := by rw [← hf]; simp
  clear hf
  go_enter Tryz.func39, Tryz.ntmps39
  go_wp2_with fail
  go_ret
  exact ⟨rfl, (HA.out.alloc _).alloc _⟩
end Go.Proofs.YthcfdoafncbliaaGreat
