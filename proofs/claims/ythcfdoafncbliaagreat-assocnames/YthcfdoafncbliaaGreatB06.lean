/-
  Laid together: Obj1.
-/
import Derived.Test.YthcfdoafncbliaaGreatB05
/-
  One object, by a coder.
-/
namespace Go.Proofs.YthcfdoafncbliaaGreat
open Go.RowKit
set_option maxRecDepth 8000
/-- A coder, and the handles that were told (in a variable at bh): hs. -/
structure HndX (w : World) (bc bh : Nat) (p q : Option Addr) (m : Bool) (zs hs : List Int) (S : Nat → Prop) (v : Value) : Prop where
  cod : Cod w p q m zs S
  kc : Keeps w S bc (.cells #[.pointer p, .pointer q] 79 (0, 0))
  kh : Keeps w S bh (.cells #[v] 55 (0, 0))
  own : w.ownsRow 0 3 1 v hs.length (i64s hs)
  ne : bc ≠ bh
  oc : v.ownBlock ≠ some bc
  oh : v.ownBlock ≠ some bh
  os : ∀ k, v.ownBlock = some k → ¬ S k
def HndF (bh : Nat) (S : Nat → Prop) (v : Value) : Nat → Prop := fun k => S k ∨ k = bh ∨ v.ownBlock = some k
def Hnd (w : World) (bc bh : Nat) (p q : Option Addr) (m : Bool) (zs hs : List Int) (F : Nat → Prop) : Prop := ∃ S v, HndX w bc bh p q m zs hs S v ∧ F = HndF bh S v
theorem Tryz.info3 : (Tryz.prog.info? 3).map (fun i => (i.zero, i.size, i.bytes)) = some (some (.int .i64 0), 1, 8) := by kernel_rfl
theorem Keeps.but {w w' : World} {S T : Nat → Prop} {k : Nat} {o : Obj} (h : Keeps w S k o) (b : But T w w') (hn : ¬ T k) : Keeps w' S k o := ⟨(b.block k h.lt hn).trans h.at0, h.out⟩
/-- The blocks of a row. -/
def OfRow (v : Value) : Nat → Prop := fun k => v.ownBlock = some k
theorem grown_but {w wc w2 : World} {v : Value} {o : Obj} (a : After w wc) (g : (wc.alloc o).grownBy w2 v.ownBlock) : But (OfRow v) w w2 := But.grown (a.alloc o).but g (fun _k h _ => h)
theorem HndF.step {bh : Nat} {v : Value} {S S' : Nat → Prop} {w w' : World} (s : Stp S w S' w') : Stp (HndF bh S v) w (HndF bh S' v) w' :=
  ⟨s.but.mono (fun i _ h => .inl h), fun k hk => by
    rcases hk with h | h
    · exact (s.new k h).imp_left .inl
    · exact .inl (.inr h)⟩
theorem one_new (w : World) (x : Value) (T : TypeId) : (w.alloc (.cells #[x] T)).cell? ⟨w.heap.size, 0, none⟩ = some x := (one_at (new1 w (.cells #[x] T))).2.1
theorem obj1_len {m : Bool} {hs : List Int} {o x : Ob} {zs ys : List Int} (h : obj1 m hs o zs = .ok (x, ys)) : ys.length ≤ zs.length + 5 := by
  unfold obj1 at h
  cases e1 : num m 2 65535 o.h zs with
  | error c => rw [thn_bad e1] at h; cases h
  | ok v =>
    obtain ⟨v1, z1⟩ := v
    rw [thn_ok e1] at h
    split at h
    · cases h
    cases e2 : num m 2 65535 o.u z1 with
    | error c => rw [thn_bad e2] at h; cases h
    | ok v =>
      obtain ⟨v2, z2⟩ := v
      rw [thn_ok e2] at h
      cases e3 : eit m o.l 1 0 z2 with
      | error c => rw [thn_bad e3] at h; cases h
      | ok v =>
        obtain ⟨v3, z3⟩ := v
        rw [thn_ok e3] at h
        have l1 := num_len e1
        have l2 := num_len e2
        have l3 := eit_len e3
        cases h; omega
set_option maxHeartbeats 1000000 in
theorem c_obj (w : World) (bc bh : Nat) (p q : Option Addr) (m : Bool) (zs hs : List Int) (F : Nat → Prop) (o : Ob) (h : Hnd w bc bh p q m zs hs F) (hl : m = true → zs.length ≤ 999999900) (h16 : hs.length ≤ 1000) :
    Calls Tryz.prog 98 #[o.val, Ptr bc, Ptr bh] w fun e w' => Ends (obj1 m hs o zs) (fun x ys => e = .returned x.val ∧ ∃ F', Hnd w' bc bh p q m ys (hs ++ [x.h]) F' ∧ Stp F w F' w') (fun c => e = .panicked (Halt c) ∧ But F w w') := by
  obtain ⟨S, v, ⟨cd, kc, kh, own, ne, oc, ohh, os⟩, rfl⟩ := h
  obtain ⟨oh, ou, ol⟩ := o
  show Calls Tryz.prog 98 #[.agg #[.int .i64 oh, .int .i64 ou, .bool ol], Ptr bc, Ptr bh] w _
  obtain ⟨va, vc, rfl⟩ := own_slice own
  obtain ⟨nh, hnh⟩ : ∃ nh, hs.length = nh := ⟨_, rfl⟩
  have hA : After w ((w.alloc (.cells #[.int .i64 oh, .int .i64 ou, .bool ol] 46)).alloc (.cells #[.int .i64 0, .int .i64 0, .bool false] 46)) := (After.rfl.alloc _).alloc _
  obtain ⟨b0, b1⟩ := new2 w (.cells #[.int .i64 oh, .int .i64 ou, .bool ol] 46) (.cells #[.int .i64 0, .int .i64 0, .bool false] 46)
  have i0 : Keeps _ S _ _ := ⟨b0, fun h => absurd (cd.lt _ h) (by omega)⟩
  have j0 : Keeps _ S _ _ := ⟨b1, fun h => absurd (cd.lt _ h) (by omega)⟩
  have hE : obj1 m hs ⟨oh, ou, ol⟩ zs = thn (num m 2 65535 oh zs) fun h zs => if h ∈ hs then .error (stp m 4) else thn (num m 2 65535 ou zs) fun u zs => thn (eit m ol 1 0 zs) fun l zs => .ok (⟨h, u, l⟩, zs) := rfl
  have H1 := hideIt (c_u16 _ p q m zs S oh (cd.after hA) (fun h => by have := hl h; omega))
  have hbcl := kc.lt
  have hbhl := kh.lt
  obtain ⟨_, c0, c1, _, _⟩ := two_at kc.at0
  have HX := hideIt (And.intro hA (And.intro (kc.after hA) (And.intro (kh.after hA) (And.intro i0 (And.intro j0 (And.intro hE (And.intro own (And.intro ne (And.intro oc (And.intro ohh (And.intro os (And.intro hl h16))))))))))))
  have HCL := hideIt cd.lt
  have ne1 : ¬ bc = w.heap.size := by omega
  have ne2 : ¬ bc = w.heap.size + 1 := by omega
  have ne3 : ¬ bh = w.heap.size := by omega
  have ne4 : ¬ bh = w.heap.size + 1 := by omega
  clear hA kc kh b0 b1 i0 j0 hE own ne oc ohh os hl h16 cd
  go_enter Tryz.func98, Tryz.ntmps98
  go_wp2_with fail
  refine H1.out.mono ?_
  clear H1
  intro e w1 h1
  obtain ⟨hA, kc, kh, i0, j0, hE, own, ne, oc, ohh, os, hl, h16⟩ := HX.out
  rcases h1.split with ⟨c1, e1, rfl, t⟩ | ⟨x1, z1, e1, rfl, S1, k1, s1⟩
  · exact ⟨rfl, Ends.bad (hE.trans (thn_bad e1)) ⟨rfl, (hA.but.trans t).mono (fun i _ hi => .inl hi)⟩⟩
  have kc1 := kc.step s1
  have kh1 := kh.step s1
  have i1 := i0.step s1
  have j1 := j0.step s1
  have own1 := own_but (own_after own hA) s1.but os
  have os1 : ∀ k, (Value.slice va hs.length vc).ownBlock = some k → ¬ S1 k := fun k hk h => (s1.new k h).elim (os k hk) (fun h' => absurd (own.lt k hk).2 (by have := hA.size; omega))
  have t1 := num_len e1
  have kc1' := kc1.far (g := w.heap.size) (fun h => ne1 h) 0 (.int .i64 x1)
  have kh1' := kh1.far (g := w.heap.size) (fun h => ne3 h) 0 (.int .i64 x1)
  have j1' := j1.far (g := w.heap.size) (by omega) 0 (.int .i64 x1)
  have i1' := i1.set0 (.int .i64 x1)
  have k1' := k1.set i1.out 0 (.int .i64 x1)
  have own1' : (w1.setCell ⟨w.heap.size, 0, none⟩ (.int .i64 x1)).ownsRow 0 3 1 _ _ _ := own_but (S := One w.heap.size) own1 (But.set (S := One w.heap.size) But.rfl ⟨w.heap.size, 0, none⟩ (fun _ => rfl) _) (fun k hk h => absurd (own.lt k hk).2 (by rw [h]; omega))
  obtain ⟨w0, hw0⟩ : ∃ w0, w1.setCell ⟨w.heap.size, 0, none⟩ (.int .i64 x1) = w0 := ⟨_, rfl⟩
  obtain ⟨_, y0, y1, y2, y3, y4, y5⟩ := three_at i1.at0
  rw [hw0] at kc1' kh1' j1' i1' k1' own1'
  have HC := hideIt (fun W (hW : After w0 W) => contains_any W va nh vc x1 hs (by rw [← hnh]; exact own_rowN (own_after own1' hW)) (by omega))
  have HM := hideIt (fun W => must_yes W p q)
  have HN := hideIt (show ∀ W, Calls Tryz.prog 60 #[Co p q, .bool false] W fun e w' => e = .panicked (Halt (stp m 4)) ∧ After W w' from fun W => by have := must_no W p q; rw [k1.mode] at this; exact this)
  obtain ⟨_, m0, m1, m2, m3⟩ := two_at kc1'.at0
  obtain ⟨_, l0, l1⟩ := one_at kh1'.at0
  obtain ⟨_, a0, a1, a2, a3, a4, a5⟩ := three_at i1'.at0
  have HX1 := hideIt (And.intro kc1' (And.intro kh1' (And.intro i1' (And.intro j1' (And.intro k1' (And.intro own1' (And.intro os1 (And.intro hl (And.intro h16 (And.intro own (And.intro ne (And.intro oc ohh))))))))))))
  have HS1 := hideIt (Stp.behind hA s1)
  have HE1 := hideIt (hE.trans (thn_ok e1))
  have HT1 := hideIt t1
  have HW0 := hideIt hw0
  rw [hnh] at l0
  clear HX h1 hA kc kh i0 j0 hE own ne oc ohh os hl h16 e1 k1 s1 kc1 kh1 i1 j1 own1 os1 t1 kc1' kh1' j1' i1' k1' own1'
  by_cases hmem : x1 ∈ hs
  · have hd : decide (x1 ∈ hs) = true := decide_eq_true hmem
    have E := hideIt (HE1.out.trans (if_pos hmem))
    rw [hd] at HC
    have HF := hideIt (show ∀ W, After w0 W → But (HndF bh S (Value.slice va hs.length vc)) w W from fun W hW => by
      rw [← HW0.out] at hW
      exact ((HS1.out.newly (g := w.heap.size) (Nat.le_refl _) 0 (.int .i64 x1)).but.mono (fun i _ hi => .inl hi)).trans hW.but)
    clear hd hmem HE1
    go_wp2_with fail
    clear hw0
    refine wp_region_held_drew (S := (fun W => W.cell? ⟨bc, 0, none⟩ = some (.pointer p) ∧ W.cell? ⟨bc, 1, none⟩ = some (.pointer q) ∧ W.cell? ⟨bh, 0, none⟩ = some (.slice va nh vc) ∧ W.cell? ⟨w.heap.size, 0, none⟩ = some (.int .i64 x1) ∧ After w0 W)) rfl ⟨m0, m1, l0, a0, After.rfl.draws 1⟩ (fun hHeld => ?_)
    refine' takeD (i := 0) (d := some 10) (v := _) rfl rfl (by kernel_rfl) (by kernel_rfl) (by kernel_rfl) (fun _ _ _ h => h) (by rfl) hHeld (fun w hSw => ?_) ?_
    rotate_left 1
    · (try dsimp only at hSw)
      go_simp
      try with_reducible rfl
    try simp only [Act.put, List.setIfInBounds_toArray, List.set_cons_zero, List.set_cons_succ]
    refine' takeD (i := 1) (d := some 11) (v := _) rfl rfl (by kernel_rfl) (by kernel_rfl) (by kernel_rfl) (fun _ _ _ h => h) (by rfl) hHeld (fun w hSw => ?_) ?_
    rotate_left 1
    · (try dsimp only at hSw)
      go_simp
      try with_reducible rfl
    try simp only [Act.put, List.setIfInBounds_toArray, List.set_cons_zero, List.set_cons_succ]
    refine' takeD (i := 2) (d := some 12) (v := _) rfl rfl (by kernel_rfl) (by kernel_rfl) (by kernel_rfl) (fun _ _ _ h => h) (by rfl) hHeld (fun w hSw => ?_) ?_
    rotate_left 1
    · (try dsimp only at hSw)
      go_simp
      try with_reducible rfl
    try simp only [Act.put, List.setIfInBounds_toArray, List.set_cons_zero, List.set_cons_succ]
    refine' takeD (i := 3) (d := some 13) (v := _) rfl rfl (by kernel_rfl) (by kernel_rfl) (by kernel_rfl) (fun _ _ _ h => h) (by rfl) hHeld (fun w hSw => ?_) ?_
    rotate_left 1
    · (try dsimp only at hSw)
      go_simp
      try with_reducible rfl
    try simp only [Act.put, List.setIfInBounds_toArray, List.set_cons_zero, List.set_cons_succ]
    refine wpAnyH_ready (rs := [4]) (by kernel_rfl) (by simp) ?_
    refine AllReadyH.cons rfl (fun K hK => ?_) AllReadyH.nil
    go_simp
    refine (HC.out _ hHeld.2.2.2.2).mono ?_
    rintro e w5 ⟨rfl, rfl⟩
    try go_wp2_with fail
    refine hK.out _ _ ?_ (fun hHeld4 => ?_)
    · exact hHeld
    clear hK K
    try simp only [Act.put, List.setIfInBounds_toArray, List.set_cons_zero, List.set_cons_succ]
    refine' takeD (i := 5) (d := some 15) (v := _) rfl rfl (by kernel_rfl) (by kernel_rfl) (by kernel_rfl) (fun _ _ _ h => h) (by rfl) hHeld4 (fun w hSw => ?_) ?_
    rotate_left 1
    · (try dsimp only at hSw)
      go_simp
      try with_reducible rfl
    try simp only [Act.put, List.setIfInBounds_toArray, List.set_cons_zero, List.set_cons_succ]
    refine wpAnyH_ready (rs := [6]) (by kernel_rfl) (by simp) ?_
    refine AllReadyH.cons rfl (fun K hK => ?_) AllReadyH.nil
    go_simp
    refine (HN.out _).mono ?_
    rintro e w6 ⟨rfl, h6⟩
    exact ⟨rfl, Ends.bad E.out ⟨rfl, HF.out _ (hHeld4.2.2.2.2.trans h6)⟩⟩
  · have hd : decide (x1 ∈ hs) = false := decide_eq_false hmem
    have HE2 := hideIt (HE1.out.trans (if_neg hmem))
    rw [hd] at HC
    clear hd hmem HE1
    go_wp2_with fail
    clear hw0
    have hKL := hideIt (And.intro HX1.out.1.lt (And.intro HX1.out.2.1.lt HX1.out.2.2.1.lt))
    refine wp_region_held_drew (S := (fun W => W.cell? ⟨bc, 0, none⟩ = some (.pointer p) ∧ W.cell? ⟨bc, 1, none⟩ = some (.pointer q) ∧ W.cell? ⟨bh, 0, none⟩ = some (.slice va nh vc) ∧ W.cell? ⟨w.heap.size, 0, none⟩ = some (.int .i64 x1) ∧ After w0 W)) rfl ⟨m0, m1, l0, a0, After.rfl.draws 1⟩ (fun hHeld => ?_)
    refine' takeD (i := 0) (d := some 10) (v := _) rfl rfl (by kernel_rfl) (by kernel_rfl) (by kernel_rfl) (fun _ _ _ h => h) (by rfl) hHeld (fun w hSw => ?_) ?_
    rotate_left 1
    · (try dsimp only at hSw)
      go_simp
      try with_reducible rfl
    try simp only [Act.put, List.setIfInBounds_toArray, List.set_cons_zero, List.set_cons_succ]
    refine' takeD (i := 1) (d := some 11) (v := _) rfl rfl (by kernel_rfl) (by kernel_rfl) (by kernel_rfl) (fun _ _ _ h => h) (by rfl) hHeld (fun w hSw => ?_) ?_
    rotate_left 1
    · (try dsimp only at hSw)
      go_simp
      try with_reducible rfl
    try simp only [Act.put, List.setIfInBounds_toArray, List.set_cons_zero, List.set_cons_succ]
    refine' takeD (i := 2) (d := some 12) (v := _) rfl rfl (by kernel_rfl) (by kernel_rfl) (by kernel_rfl) (fun _ _ _ h => h) (by rfl) hHeld (fun w hSw => ?_) ?_
    rotate_left 1
    · (try dsimp only at hSw)
      go_simp
      try with_reducible rfl
    try simp only [Act.put, List.setIfInBounds_toArray, List.set_cons_zero, List.set_cons_succ]
    refine' takeD (i := 3) (d := some 13) (v := _) rfl rfl (by kernel_rfl) (by kernel_rfl) (by kernel_rfl) (fun _ _ _ h => h) (by rfl) hHeld (fun w hSw => ?_) ?_
    rotate_left 1
    · (try dsimp only at hSw)
      go_simp
      try with_reducible rfl
    try simp only [Act.put, List.setIfInBounds_toArray, List.set_cons_zero, List.set_cons_succ]
    refine wpAnyH_ready (rs := [4]) (by kernel_rfl) (by simp) ?_
    refine AllReadyH.cons rfl (fun K hK => ?_) AllReadyH.nil
    go_simp
    refine (HC.out _ hHeld.2.2.2.2).mono ?_
    rintro e w5 ⟨rfl, rfl⟩
    try go_wp2_with fail
    refine hK.out _ _ ?_ (fun hHeld4 => ?_)
    · exact hHeld
    clear hK K
    try simp only [Act.put, List.setIfInBounds_toArray, List.set_cons_zero, List.set_cons_succ]
    refine' takeD (i := 5) (d := some 15) (v := _) rfl rfl (by kernel_rfl) (by kernel_rfl) (by kernel_rfl) (fun _ _ _ h => h) (by rfl) hHeld4 (fun w hSw => ?_) ?_
    rotate_left 1
    · (try dsimp only at hSw)
      go_simp
      try with_reducible rfl
    try simp only [Act.put, List.setIfInBounds_toArray, List.set_cons_zero, List.set_cons_succ]
    refine wpAnyH_ready (rs := [6]) (by kernel_rfl) (by simp) ?_
    refine AllReadyH.cons rfl (fun K hK => ?_) AllReadyH.nil
    go_simp
    refine (HM.out _).mono ?_
    rintro e wc ⟨rfl, h6⟩
    try go_wp2_with fail
    refine hK.out _ _ ?_ (fun hHeld6 => ?_)
    · exact ⟨by rw [h6.cell (Nat.lt_of_lt_of_le hKL.out.1 hHeld4.2.2.2.2.size)]; exact hHeld4.1, by rw [h6.cell (Nat.lt_of_lt_of_le hKL.out.1 hHeld4.2.2.2.2.size)]; exact hHeld4.2.1, by rw [h6.cell (Nat.lt_of_lt_of_le hKL.out.2.1 hHeld4.2.2.2.2.size)]; exact hHeld4.2.2.1, by rw [h6.cell (Nat.lt_of_lt_of_le hKL.out.2.2 hHeld4.2.2.2.2.size)]; exact hHeld4.2.2.2.1, hHeld4.2.2.2.2.trans h6⟩
    clear hK K
    try simp only [Act.put, List.setIfInBounds_toArray, List.set_cons_zero, List.set_cons_succ]
    refine wpAnyH_done (by kernel_rfl) ?_ _
    have hcut := hHeld6.2.2.2.2
    clear hHeld hHeld4 hHeld6 h6 hKL
    first | rw [Exit.then_normal] | skip
    have hdummy : True := trivial
    · clear hdummy
      obtain ⟨kc, kh, i1, j1, k1, own, os, hl, h16, ownw, ne, oc, ohh⟩ := HX1.out
      have kc2 := kc.after hcut
      have kh2 := kh.after hcut
      have i2 := i1.after hcut
      have own2 := own_after own hcut
      rw [hnh] at kh2 own2
      obtain ⟨_, p0, p1, p2, p3⟩ := two_at kc2.at0
      obtain ⟨_, r0, r1⟩ := one_at kh2.at0
      obtain ⟨_, sc0, sc1, sc2, sc3, sc4, sc5⟩ := three_at i2.at0
      obtain ⟨i0, hi, hz0, hz1, hz2⟩ := info_parts Tryz.info3
      have HO2 := hideIt (own_after own2 (After.rfl.alloc (.cells #[.int .i64 x1] 3)))
      have HNW := hideIt (show ∀ j u, [Value.int .i64 x1][j]? = some u → (wc.alloc (.cells #[.int .i64 x1] 3)).cell? ((⟨wc.heap.size, 0, none⟩ : Addr).add j) = some u from fun j u hj => by
        cases j with
        | zero => simp at hj; subst hj; exact one_new wc _ 3
        | succ j => simp at hj)
      have HH := hideIt (show nh ≤ 1000 by omega)
      have HCUT := hideIt hcut
      have HKP := hideIt (show ∀ W, But (OfRow (.slice va nh vc)) w0 W → Keeps W S1 bc (.cells #[.pointer p, .pointer q] 79 (0, 0)) ∧ Keeps W S1 bh (.cells #[.slice va nh vc] 55 (0, 0)) ∧ Keeps W S1 w.heap.size (.cells #[.int .i64 x1, .int .i64 ou, .bool ol] 46 (0, 0)) ∧ Keeps W S1 (w.heap.size + 1) (.cells #[.int .i64 0, .int .i64 0, .bool false] 46 (0, 0)) ∧ Cod W p q m z1 S1 from fun W hW => by
        rw [hnh] at os kh oc ohh ownw
        exact ⟨kc.but hW oc, kh.but hW ohh, i1.but hW (fun h => absurd (ownw.lt _ h).2 (by omega)), j1.but hW (fun h => absurd (ownw.lt _ h).2 (by omega)), k1.but hW (fun k hk h => os k h hk)⟩)
      have HBW := hideIt (show ∀ W, But (OfRow (.slice va nh vc)) w0 W → But (HndF bh S (.slice va hs.length vc)) w W from fun W hW => by
        have := ((HS1.out.newly (g := w.heap.size) (Nat.le_refl _) 0 (.int .i64 x1)).but.mono (T := HndF bh S (.slice va hs.length vc)) (fun i _ hi => .inl hi))
        rw [HW0.out] at this
        refine this.then hW (fun i _ h => ?_)
        rw [hnh]
        exact .inr (.inr h))
      have HLE := hideIt (show m = true → z1.length ≤ 999999902 from fun h => by have := hl h; have := HT1.out; omega)
      have HSZ := hideIt (show w.heap.size ≤ w0.heap.size ∧ ∀ k, S1 k → S k ∨ w.heap.size ≤ k from ⟨by rw [← HW0.out, World.size_setCell]; exact HS1.out.but.size, HS1.out.new⟩)
      have HNE := hideIt (And.intro ne (And.intro oc (And.intro ohh (And.intro ownw (And.intro os k1.lt)))))
      have hbc2 := kc2.lt
      have hbh2 := kh2.lt
      clear kc kh i1 j1 k1 own os hl h16 kc2 kh2 i2 own2 hcut HC HM HN HX1 HT1 y0 y1 y2 y3 y4 y5 m0 m1 m2 m3 l0 l1 a0 a1 a2 a3 a4 a5 c0 c1
      have nb1 : ¬ bc = bh := ne
      have nb2 : ¬ bh = bc := fun h => ne h.symm
      have nb3 : ¬ w.heap.size = bh := fun h => ne3 h.symm
      have nb4 : ¬ w.heap.size + 1 = bh := fun h => ne4 h.symm
      clear ownw ne oc ohh
      go_wp2_with (at_builtin; refine wpList_append_own_at _ rfl (.tmp 17) (.tmp 20) 55 rfl 0 3 i0 (.int .i64 0) 1 8 Tryz.underlying55 hi hz0 hz1 hz2 rfl (by decide) (.slice va nh vc) nh _ rfl HO2.out ⟨wc.heap.size, 0, none⟩ 1 1 [.int .i64 x1] rfl rfl HNW.out (fun u hu => by cases hu with | head => rfl | tail _ h => cases h) (by have := HH.out; unfold maxLen; omega) (by have := HH.out; omega) (Nat.zero_le _) ?_; intro v2 w2 hown hgrow _ hat; obtain ⟨ka, kb, ki, kj, kk⟩ := HKP.out w2 (grown_but HCUT.out hgrow); obtain ⟨a2, c2, rfl⟩ := own_slice hown; have HGR := hideIt (grown_but HCUT.out hgrow); obtain ⟨_, p0', p1', _, _⟩ := two_at ka.at0; obtain ⟨_, r0', r1'⟩ := one_at kb.at0; obtain ⟨_, s0', s1', s2', s3', s4', s5'⟩ := three_at ki.at0; have HKS := hideIt (And.intro ka (And.intro kb (And.intro ki (And.intro kj kk)))); have HOW := hideIt hown; have HAT := hideIt (hat.imp_right (fun h => And.intro h hgrow.size)); clear hown hgrow hat ka kb ki kj kk)
      obtain ⟨ka, kb, ki, kj, kk⟩ := HKS.out
      obtain ⟨ne, oc, ohh, ownw, os, hlt⟩ := HNE.out
      have hwc : w0.heap.size ≤ wc.heap.size := HCUT.out.size
      have hV : ∀ k, (Value.slice a2 (nh + 1) c2).ownBlock = some k → (Value.slice va hs.length vc).ownBlock = some k ∨ wc.heap.size < k := fun k h => HAT.out.elim (fun e => .inl (by rw [hnh, ← e]; exact h)) (fun e => .inr (by rw [e.1] at h; cases h; rw [World.size_alloc]; omega))
      have HVN := hideIt (show ∀ k, (Value.slice a2 (nh + 1) c2).ownBlock = some k → k ≠ w.heap.size ∧ k ≠ w.heap.size + 1 from fun k hk => by
        rcases hV k hk with e | e
        · have := (ownw.lt k e).2; omega
        · have := HSZ.out.1; have := kj.lt; omega)
      have oc2 : (Value.slice a2 (nh + 1) c2).ownBlock ≠ some bc := fun h => (hV bc h).elim oc (fun h => by omega)
      have oh2 : (Value.slice a2 (nh + 1) c2).ownBlock ≠ some bh := fun h => (hV bh h).elim ohh (fun h => by omega)
      have os2 : ∀ k, (Value.slice a2 (nh + 1) c2).ownBlock = some k → ¬ S1 k := fun k h hs1 => (hV k h).elim (fun e => os k e hs1) (fun e => by have := hlt k hs1; omega)
      have ka3 := ka.far (g := bh) ne 0 (.slice a2 (nh + 1) c2)
      have kb3 : Keeps (w2.setCell ⟨bh, 0, none⟩ (.slice a2 (nh + 1) c2)) S1 bh (.cells #[.slice a2 (nh + 1) c2] 55 (0, 0)) := ⟨one_set kb.at0 _, kb.out⟩
      have ki3 := ki.far (g := bh) nb3 0 (.slice a2 (nh + 1) c2)
      have kj3 := kj.far (g := bh) nb4 0 (.slice a2 (nh + 1) c2)
      have kk3 := kk.set kb.out 0 (.slice a2 (nh + 1) c2)
      have own3 : (w2.setCell ⟨bh, 0, none⟩ (.slice a2 (nh + 1) c2)).ownsRow 0 3 1 _ _ _ := own_but (S := One bh) HOW.out (But.set (S := One bh) But.rfl ⟨bh, 0, none⟩ (fun _ => rfl) _) (fun k hk h => oh2 (by rw [← h]; exact hk))
      have st3 : Stp (HndF bh S (.slice va hs.length vc)) w (HndF bh S1 (.slice a2 (nh + 1) c2)) (w2.setCell ⟨bh, 0, none⟩ (.slice a2 (nh + 1) c2)) :=
        ⟨(HBW.out w2 HGR.out).set _ (fun _ => .inr (.inl rfl)) _, fun k hk => by
          rcases hk with h | h | h
          · exact (HSZ.out.2 k h).imp_left .inl
          · exact .inl (.inr (.inl h))
          · exact (hV k h).elim (fun e => .inl (.inr (.inr e))) (fun e => .inr (by have := HSZ.out.1; omega))⟩
      obtain ⟨w3, hw3⟩ : ∃ w3, w2.setCell ⟨bh, 0, none⟩ (.slice a2 (nh + 1) c2) = w3 := ⟨_, rfl⟩
      rw [hw3] at ka3 kb3 ki3 kj3 kk3 own3 st3 ⊢
      have H3 := hideIt (c_u16 w3 p q m z1 S1 ou kk3 (fun h => by have := HLE.out h; omega))
      refine H3.out.mono ?_
      clear H3
      intro e w4 h4
      rcases h4.split with ⟨c4, e4, rfl, t⟩ | ⟨x4, z4, e4, rfl, S4, k4, s4⟩
      · exact ⟨rfl, Ends.bad (HE2.out.trans (thn_bad e4)) ⟨rfl, st3.ends (t.mono (fun i _ h => .inl h))⟩⟩
      have hs3 : w.heap.size + 2 ≤ w3.heap.size := kj3.lt
      have ka4 := ka3.step s4
      have kb4 := kb3.step s4
      have ki4 := ki3.step s4
      have kj4 := kj3.step s4
      have own4 := own_but own3 s4.but os2
      have os4 : ∀ k, (Value.slice a2 (nh + 1) c2).ownBlock = some k → ¬ S4 k := fun k hk h => (s4.new k h).elim (os2 k hk) (fun h' => absurd (own3.lt k hk).2 (by omega))
      have st4 := st3.trans (HndF.step (bh := bh) (v := .slice a2 (nh + 1) c2) s4)
      obtain ⟨_, f0, f1, _, _⟩ := two_at ka4.at0
      obtain ⟨_, g0, g1, g2, g3, g4, g5⟩ := three_at ki4.at0
      have ka4' := ka4.far (g := w.heap.size) ne1 1 (.int .i64 x4)
      have kb4' := kb4.far (g := w.heap.size) ne3 1 (.int .i64 x4)
      have kj4' := kj4.far (g := w.heap.size) (by omega) 1 (.int .i64 x4)
      have ki4' := ki4.set1 (.int .i64 x4)
      have k4' := k4.set ki4.out 1 (.int .i64 x4)
      have own4' : (w4.setCell ⟨w.heap.size, 1, none⟩ (.int .i64 x4)).ownsRow 0 3 1 _ _ _ := own_but (S := One w.heap.size) own4 (But.set (S := One w.heap.size) But.rfl ⟨w.heap.size, 1, none⟩ (fun _ => rfl) _) (fun k hk h => by
        rcases hV k hk with e | e
        · exact absurd (ownw.lt k e).2 (by rw [h]; omega)
        · have := HSZ.out.1; rw [h] at e; omega)
      have st4' := st4.newly (g := w.heap.size) (Nat.le_refl _) 1 (.int .i64 x4)
      have l4 := num_len e4
      have H4 := hideIt (c_either _ p q m z4 S4 ol 1 0 k4' (fun h => by have := HLE.out h; omega))
      have HE4 := hideIt (HE2.out.trans (thn_ok e4))
      have HF := hideIt (And.intro ka4' (And.intro kb4' (And.intro kj4' (And.intro ki4' (And.intro own4' (And.intro st4' (And.intro os4 (And.intro oc2 (And.intro oh2 ne)))))))))
      clear ne oc ohh ownw os hlt hwc hV oc2 oh2 os2 ka kb ki kj kk ka3 kb3 ki3 kj3 kk3 own3 st3 h4 e4 k4 s4 ka4 kb4 ki4 kj4 own4 os4 st4 ka4' kb4' kj4' ki4' k4' own4' st4' l4 hw3 HE2 HBW HKP HNE HKS HOW HAT HGR HO2 HNW HCUT HSZ HS1 HW0 p0 p1 p2 p3 r0 r1 sc0 sc1 sc2 sc3 sc4 sc5 p0' p1' r0' r1' s0' s1' s2' s3' s4' s5'
      go_wp2_with fail
      refine H4.out.mono ?_
      clear H4
      intro e w5 h5
      obtain ⟨ka, kb, kj, ki, own, st, os, oc, ohh, ne⟩ := HF.out
      rcases h5.split with ⟨c5, e5, rfl, t⟩ | ⟨x5, z5, e5, rfl, S5, k5, s5⟩
      · exact ⟨rfl, Ends.bad (HE4.out.trans (thn_bad e5)) ⟨rfl, st.ends (t.mono (fun i _ h => .inl h))⟩⟩
      have ka5 := ka.step s5
      have kb5 := kb.step s5
      have ki5 := ki.step s5
      have kj5 := kj.step s5
      have own5 := own_but own s5.but os
      have os5 : ∀ k, (Value.slice a2 (nh + 1) c2).ownBlock = some k → ¬ S5 k := fun k hk h => (s5.new k h).elim (os k hk) (fun h' => absurd (own.lt k hk).2 (by omega))
      have st5 := st.trans (HndF.step (bh := bh) (v := .slice a2 (nh + 1) c2) s5)
      obtain ⟨_, f0', f1', _, _⟩ := two_at ka5.at0
      obtain ⟨_, g0', g1', g2', g3', g4', g5'⟩ := three_at ki5.at0
      obtain ⟨_, i0', i1', i2', i3', i4', i5'⟩ := three_at kj5.at0
      have E := hideIt (HE4.out.trans (thn_ok e5))
      have HF5 := hideIt (And.intro ka5 (And.intro kb5 (And.intro ki5 (And.intro kj5 (And.intro own5 (And.intro os5 (And.intro st5 (And.intro k5 (And.intro oc (And.intro ohh ne))))))))))
      have hw5 : w.heap.size + 1 < w5.heap.size := kj5.lt
      clear ka kb kj ki own st os oc ohh ne ka5 kb5 ki5 kj5 own5 os5 st5 e5 k5 s5 h5 HF HE4 f0 f1 g0 g1 g2 g3 g4 g5
      go_wp2_with fail
      obtain ⟨ka, kb, ki, kj, own, os, st, k5, oc, ohh, ne⟩ := HF5.out
      refine bodyPost_ret (v := .agg #[.int .i64 x1, .int .i64 x4, .bool x5]) (by simp [results, Tryz.results98, go_sem, i0', i1', i2']) rfl (Ends.ok E.out ⟨rfl, _, ⟨S5, .slice a2 (nh + 1) c2, ⟨?_, ?_, ?_, ?_, ne, oc, ohh, os⟩, rfl⟩, ?_⟩)
      · refine Cod.set (Cod.set (Cod.set (Cod.set k5 ki.out _ _) kj.out _ _) kj.out _ _) kj.out _ _
      · exact (((ka.far ne1 _ _).far ne2 _ _).far ne2 _ _).far ne2 _ _
      · exact (((kb.far ne3 _ _).far ne4 _ _).far ne4 _ _).far ne4 _ _
      · have e1 : (hs ++ [x1]).length = nh + 1 := by rw [List.length_append, hnh]; rfl
        have e2 : i64s (hs ++ [x1]) = i64s hs ++ [.int .i64 x1] := by simp [i64s]
        rw [e1, e2]
        have hne : ∀ k, (Value.slice a2 (nh + 1) c2).ownBlock = some k → k ≠ w.heap.size ∧ k ≠ w.heap.size + 1 := HVN.out
        refine own_but (S := fun k => k = w.heap.size ∨ k = w.heap.size + 1) own ((((But.rfl.set _ (fun _ => .inl rfl) _).set _ (fun _ => .inr rfl) _).set _ (fun _ => .inr rfl) _).set _ (fun _ => .inr rfl) _) (fun k hk h => h.elim (hne k hk).1 (hne k hk).2)
      · exact (((st.newly (Nat.le_refl _) _ _).newly (by omega) _ _).newly (by omega) _ _).newly (by omega) _ _
end Go.Proofs.YthcfdoafncbliaaGreat
