/-
  Laid together: Ins, InsA, News.
-/
import Derived.Test.YthcfdoafncbliaaGreatB11
import Derived.Test.YthcfdoafncbliaaGreatB05
/-
  What stands in a message, by a coder: its kind is one that may be, and its fields.
-/
namespace Go.Proofs.YthcfdoafncbliaaGreat
open Go.RowKit
set_option maxRecDepth 8000
def alone (k : Int) : Bool := decide (k = 57856 ∨ k = 58112 ∨ k = 58368 ∨ k = 58624 ∨ k = 58880)
def inData (k : Int) : Bool := decide (k = 3356 ∨ k = 3357 ∨ k = 3358)
theorem alone_any (w : World) (k : Int) : Calls Tryz.prog 34 #[.int .i64 k] w fun e w' => e = .returned (.bool (alone k)) ∧ w' = w := by
  by_cases h : k = 57856 ∨ k = 58112 ∨ k = 58368 ∨ k = 58624 ∨ k = 58880
  · rw [show alone k = true from decide_eq_true h]
    rcases h with rfl | rfl | rfl | rfl | rfl
    all_goals
      go_enter Tryz.func34, Tryz.ntmps34
      go_wp2_with fail
      go_ret
      exact ⟨rfl, rfl⟩
  · rw [show alone k = false from decide_eq_false h]
    have n1 : (k == 57856) = false := by simpa using fun e => h (.inl e)
    have n2 : (k == 58112) = false := by simpa using fun e => h (.inr (.inl e))
    have n3 : (k == 58368) = false := by simpa using fun e => h (.inr (.inr (.inl e)))
    have n4 : (k == 58624) = false := by simpa using fun e => h (.inr (.inr (.inr (.inl e))))
    have n5 : (k == 58880) = false := by simpa using fun e => h (.inr (.inr (.inr (.inr e))))
    clear h
    go_enter Tryz.func34, Tryz.ntmps34
    go_wp2_with fail
    go_ret
    exact ⟨rfl, rfl⟩
theorem inData_any (w : World) (k : Int) : Calls Tryz.prog 35 #[.int .i64 k] w fun e w' => e = .returned (.bool (inData k)) ∧ w' = w := by
  by_cases h : k = 3356 ∨ k = 3357 ∨ k = 3358
  · rw [show inData k = true from decide_eq_true h]
    rcases h with rfl | rfl | rfl
    all_goals
      go_enter Tryz.func35, Tryz.ntmps35
      go_wp2_with fail
      go_ret
      exact ⟨rfl, rfl⟩
  · rw [show inData k = false from decide_eq_false h]
    have n1 : (k == 3356) = false := by simpa using fun e => h (.inl e)
    have n2 : (k == 3357) = false := by simpa using fun e => h (.inr (.inl e))
    have n3 : (k == 3358) = false := by simpa using fun e => h (.inr (.inr e))
    clear h
    go_enter Tryz.func35, Tryz.ntmps35
    go_wp2_with fail
    go_ret
    exact ⟨rfl, rfl⟩
theorem fields_any (w : World) (p q : Option Addr) (m : Bool) (zs : List Int) (S P : Nat → Prop) (k : Int) (M : Msg) (sa : Option Addr) (sc : Nat) (oa : Option Addr) (oc : Nat) (ba : Option Addr) (bc : Nat) (cd : Cod w p q m zs S) (x : MsgX w P M sa sc oa oc ba bc) (hP : ∀ k, P k → ¬ S k ∧ k < w.heap.size) (hl : m = true → zs.length ≤ 900000000) (hk : alone k = true ∨ inData k = true) :
    Calls Tryz.prog 61 #[Co p q, .int .i64 k, M.val sa sc oa oc ba bc] w fun e w' => Ends (fieldsF m k M zs) (fun X us => Msgs w w' m e P X ∧ Went w w' p q m S us) (fun c => e = .panicked (Halt c) ∧ But S w w') := by
  rcases hk.imp of_decide_eq_true of_decide_eq_true with (rfl | rfl | rfl | rfl | rfl) | (rfl | rfl | rfl)
  · exact f_57856 w p q m zs S P M sa sc oa oc ba bc cd x hP hl
  · exact f_58112 w p q m zs S P M sa sc oa oc ba bc cd x hP hl
  · exact f_58368 w p q m zs S P M sa sc oa oc ba bc cd x hP hl
  · exact f_58624 w p q m zs S P M sa sc oa oc ba bc cd x hP hl
  · exact f_58880 w p q m zs S P M sa sc oa oc ba bc cd x hP hl
  · exact f_3356 w p q m zs S P M sa sc oa oc ba bc cd x hP hl
  · exact f_3357 w p q m zs S P M sa sc oa oc ba bc cd x hP hl
  · exact f_3358 w p q m zs S P M sa sc oa oc ba bc cd x hP hl
/-- The cells of a message. -/
def Msg.cells (M : Msg) (sa : Option Addr) (sc : Nat) (oa : Option Addr) (oc : Nat) (ba : Option Addr) (bc : Nat) : Array Value :=
  #[.int .i64 M.kind, .slice sa M.sys.length sc, .int .i64 M.config, .int .i64 M.result, .int .i64 M.reason, .slice oa M.objs.length oc, .slice ba M.obs.length bc]
/-- A variable holds a message that was gone through. -/
def Vars (w w' : World) (m : Bool) (g : Nat) (P : Nat → Prop) (X : Msg) : Prop :=
  ∃ sa sc oa oc ba bc, w'.heap[g]? = some (.cells (X.cells sa sc oa oc ba bc) 31 (0, 0)) ∧ MsgX w' (fun k => P k ∨ w.heap.size ≤ k) X sa sc oa oc ba bc ∧ (m = false → w'.ownsRow w.heap.size 5 1 (.slice sa X.sys.length sc) X.sys.length (u8s X.sys))
/-- A coder has gone on, and a variable was stored into. -/
structure StpV (S : Nat → Prop) (g : Nat) (w : World) (S' : Nat → Prop) (w' : World) : Prop where
  but : But (fun k => S k ∨ k = g) w w'
  new : ∀ k, S' k → S k ∨ w.heap.size ≤ k
def insF (m : Bool) (ok : Int → Bool) (k : Int) (M : Msg) (zs : List Int) : Except Int (Msg × List Int) :=
  if ok k = true then fieldsF m k M zs else .error (stp m 4)
theorem seven_sets {w : World} {g : Nat} {T : TypeId} {y0 y1 y2 y3 y4 y5 y6 : Value} (h : w.heap[g]? = some (.cells #[y0, y1, y2, y3, y4, y5, y6] T (0, 0))) (x0 x1 x2 x3 x4 x5 x6 : Value) :
    (((((((w.setCell ⟨g, 0, none⟩ x0).setCell ⟨g, 1, none⟩ x1).setCell ⟨g, 2, none⟩ x2).setCell ⟨g, 3, none⟩ x3).setCell ⟨g, 4, none⟩ x4).setCell ⟨g, 5, none⟩ x5).setCell ⟨g, 6, none⟩ x6).heap[g]? = some (.cells #[x0, x1, x2, x3, x4, x5, x6] T (0, 0)) := by
  have h0 : (w.setCell ⟨g, 0, none⟩ x0).heap[g]? = some (.cells #[x0, y1, y2, y3, y4, y5, y6] T (0, 0)) := blk_setA h x0
  have h1 : ((w.setCell ⟨g, 0, none⟩ x0).setCell ⟨g, 1, none⟩ x1).heap[g]? = some (.cells #[x0, x1, y2, y3, y4, y5, y6] T (0, 0)) := blk_setA h0 x1
  have h2 : (((w.setCell ⟨g, 0, none⟩ x0).setCell ⟨g, 1, none⟩ x1).setCell ⟨g, 2, none⟩ x2).heap[g]? = some (.cells #[x0, x1, x2, y3, y4, y5, y6] T (0, 0)) := blk_setA h1 x2
  have h3 : ((((w.setCell ⟨g, 0, none⟩ x0).setCell ⟨g, 1, none⟩ x1).setCell ⟨g, 2, none⟩ x2).setCell ⟨g, 3, none⟩ x3).heap[g]? = some (.cells #[x0, x1, x2, x3, y4, y5, y6] T (0, 0)) := blk_setA h2 x3
  have h4 : (((((w.setCell ⟨g, 0, none⟩ x0).setCell ⟨g, 1, none⟩ x1).setCell ⟨g, 2, none⟩ x2).setCell ⟨g, 3, none⟩ x3).setCell ⟨g, 4, none⟩ x4).heap[g]? = some (.cells #[x0, x1, x2, x3, x4, y5, y6] T (0, 0)) := blk_setA h3 x4
  have h5 : ((((((w.setCell ⟨g, 0, none⟩ x0).setCell ⟨g, 1, none⟩ x1).setCell ⟨g, 2, none⟩ x2).setCell ⟨g, 3, none⟩ x3).setCell ⟨g, 4, none⟩ x4).setCell ⟨g, 5, none⟩ x5).heap[g]? = some (.cells #[x0, x1, x2, x3, x4, x5, y6] T (0, 0)) := blk_setA h4 x5
  have h6 : (((((((w.setCell ⟨g, 0, none⟩ x0).setCell ⟨g, 1, none⟩ x1).setCell ⟨g, 2, none⟩ x2).setCell ⟨g, 3, none⟩ x3).setCell ⟨g, 4, none⟩ x4).setCell ⟨g, 5, none⟩ x5).setCell ⟨g, 6, none⟩ x6).heap[g]? = some (.cells #[x0, x1, x2, x3, x4, x5, x6] T (0, 0)) := blk_setA h5 x6
  exact h6
end Go.Proofs.YthcfdoafncbliaaGreat
/-
  What stands within data, and what stands alone, by a coder.
-/
namespace Go.Proofs.YthcfdoafncbliaaGreat
open Go.RowKit
set_option maxRecDepth 8000
set_option maxHeartbeats 1000000 in
theorem in44 (w : World) (p q : Option Addr) (m : Bool) (zs : List Int) (S P : Nat → Prop) (g : Nat) (k : Int) (M : Msg) (sa : Option Addr) (sc : Nat) (oa : Option Addr) (oc : Nat) (ba : Option Addr) (bc : Nat) (cd : Cod w p q m zs S) (kb : Keeps w S g (.cells (M.cells sa sc oa oc ba bc) 31 (0, 0))) (x : MsgX w P M sa sc oa oc ba bc) (hP : ∀ k, P k → ¬ S k ∧ k < w.heap.size) (hg : ¬ P g) (hl : m = true → zs.length ≤ 900000000) :
    Calls Tryz.prog 62 #[Co p q, .int .i64 k, Ptr g] w fun e w' => Ends (insF m inData k M zs) (fun X us => e = .returned (.tuple #[]) ∧ Vars w w' m g P X ∧ ∃ S', Cod w' p q m us S' ∧ StpV S g w S' w') (fun c => e = .panicked (Halt c) ∧ But S w w') := by
  have hgw := kb.lt
  have ng1 : ¬ g = w.heap.size := by omega
  have ng2 : ¬ w.heap.size = g := by omega
  have hA : After w (w.alloc (.cells #[.pointer p, .pointer q] 79)) := After.rfl.alloc _
  have b0 := new1 w (.cells #[.pointer p, .pointer q] 79)
  have kc : Keeps _ S w.heap.size _ := ⟨b0, fun h => absurd (cd.lt _ h) (by omega)⟩
  have kb1 := kb.after hA
  have cd1 := cd.after hA
  have x1 := x.after hA
  obtain ⟨w1, hw1⟩ : ∃ w1, w.alloc (.cells #[.pointer p, .pointer q] 79) = w1 := ⟨_, rfl⟩
  rw [hw1] at hA kc kb1 cd1 x1
  obtain ⟨_, d0, d1, _, _⟩ := two_at kc.at0
  have HN := hideIt (show ∀ W, Calls Tryz.prog 60 #[Co p q, .bool false] W fun e w' => e = .panicked (Halt (stp m 4)) ∧ After W w' from fun W => by have := must_no W p q; rw [cd.mode] at this; exact this)
  have HX := hideIt (And.intro hA (And.intro kc (And.intro kb1 (And.intro cd1 (And.intro x1 (And.intro hP (And.intro hg hl)))))))
  clear hA b0 kc kb kb1 cd cd1 x x1 hP hg hl
  cases hok : inData k with
  | false =>
    have E := hideIt (show insF m inData k M zs = .error (stp m 4) from if_neg (by rw [hok]; decide))
    go_enter Tryz.func62, Tryz.ntmps62
    go_wp2_with fail
    clear hw1
    refine wp_region_held_drew (S := (fun W => W.cell? ⟨w.heap.size, 0, none⟩ = some (.pointer p) ∧ W.cell? ⟨w.heap.size, 1, none⟩ = some (.pointer q) ∧ After w1 W)) rfl ⟨d0, d1, After.rfl.draws 1⟩ (fun hHeld => ?_)
    refine' takeD (i := 0) (d := some 5) (v := _) rfl rfl (by kernel_rfl) (by kernel_rfl) (by kernel_rfl) (fun _ _ _ h => h) (by rfl) hHeld (fun w hSw => ?_) ?_
    rotate_left 1
    · (try dsimp only at hSw)
      go_simp
      try with_reducible rfl
    try simp only [Act.put, List.setIfInBounds_toArray, List.set_cons_zero, List.set_cons_succ]
    refine' takeD (i := 1) (d := some 6) (v := _) rfl rfl (by kernel_rfl) (by kernel_rfl) (by kernel_rfl) (fun _ _ _ h => h) (by rfl) hHeld (fun w hSw => ?_) ?_
    rotate_left 1
    · (try dsimp only at hSw)
      go_simp
      try with_reducible rfl
    try simp only [Act.put, List.setIfInBounds_toArray, List.set_cons_zero, List.set_cons_succ]
    refine wpAnyH_ready (rs := [2]) (by kernel_rfl) (by simp) ?_
    refine AllReadyH.cons rfl (fun K hK => ?_) AllReadyH.nil
    go_simp
    refine (inData_any _ k).mono ?_
    rintro e w5 ⟨rfl, rfl⟩
    rw [hok]
    try go_wp2_with fail
    refine hK.out _ _ ?_ (fun hHeld2 => ?_)
    · exact hHeld
    clear hK K
    try simp only [Act.put, List.setIfInBounds_toArray, List.set_cons_zero, List.set_cons_succ]
    refine wpAnyH_ready (rs := [3]) (by kernel_rfl) (by simp) ?_
    refine AllReadyH.cons rfl (fun K hK => ?_) AllReadyH.nil
    go_simp
    refine (HN.out _).mono ?_
    rintro e w6 ⟨rfl, h6⟩
    exact ⟨rfl, Ends.bad E.out ⟨rfl, (HX.out.1.trans (hHeld2.2.2.trans h6)).but⟩⟩
  | true =>
    have E := hideIt (show insF m inData k M zs = fieldsF m k M zs from if_pos hok)
    go_enter Tryz.func62, Tryz.ntmps62
    go_wp2_with fail
    clear hw1
    refine wp_region_held_drew (S := (fun W => W.cell? ⟨w.heap.size, 0, none⟩ = some (.pointer p) ∧ W.cell? ⟨w.heap.size, 1, none⟩ = some (.pointer q) ∧ After w1 W)) rfl ⟨d0, d1, After.rfl.draws 1⟩ (fun hHeld => ?_)
    refine' takeD (i := 0) (d := some 5) (v := _) rfl rfl (by kernel_rfl) (by kernel_rfl) (by kernel_rfl) (fun _ _ _ h => h) (by rfl) hHeld (fun w hSw => ?_) ?_
    rotate_left 1
    · (try dsimp only at hSw)
      go_simp
      try with_reducible rfl
    try simp only [Act.put, List.setIfInBounds_toArray, List.set_cons_zero, List.set_cons_succ]
    refine' takeD (i := 1) (d := some 6) (v := _) rfl rfl (by kernel_rfl) (by kernel_rfl) (by kernel_rfl) (fun _ _ _ h => h) (by rfl) hHeld (fun w hSw => ?_) ?_
    rotate_left 1
    · (try dsimp only at hSw)
      go_simp
      try with_reducible rfl
    try simp only [Act.put, List.setIfInBounds_toArray, List.set_cons_zero, List.set_cons_succ]
    refine wpAnyH_ready (rs := [2]) (by kernel_rfl) (by simp) ?_
    refine AllReadyH.cons rfl (fun K hK => ?_) AllReadyH.nil
    go_simp
    refine (inData_any _ k).mono ?_
    rintro e w5 ⟨rfl, rfl⟩
    rw [hok]
    try go_wp2_with fail
    refine hK.out _ _ ?_ (fun hHeld2 => ?_)
    · exact hHeld
    clear hK K
    try simp only [Act.put, List.setIfInBounds_toArray, List.set_cons_zero, List.set_cons_succ]
    refine wpAnyH_ready (rs := [3]) (by kernel_rfl) (by simp) ?_
    refine AllReadyH.cons rfl (fun K hK => ?_) AllReadyH.nil
    go_simp
    refine (must_yes _ p q).mono ?_
    rintro e w2 ⟨rfl, h6⟩
    try go_wp2_with fail
    refine hK.out _ _ ?_ (fun hHeld3 => ?_)
    · exact ⟨by rw [h6.cell (Nat.lt_of_lt_of_le HX.out.2.1.lt hHeld2.2.2.size)]; exact hHeld2.1, by rw [h6.cell (Nat.lt_of_lt_of_le HX.out.2.1.lt hHeld2.2.2.size)]; exact hHeld2.2.1, hHeld2.2.2.trans h6⟩
    clear hK K
    try simp only [Act.put, List.setIfInBounds_toArray, List.set_cons_zero, List.set_cons_succ]
    refine wpAnyH_done (by kernel_rfl) ?_ _
    have hcut := hHeld3.2.2
    clear hHeld hHeld2 hHeld3 h6
    obtain ⟨hA, kc, kb, cd, x, hP, hg, hl⟩ := HX.out
    have kc2 := kc.after hcut
    have kb2 := kb.after hcut
    have hA2 := hA.trans hcut
    have hP2 : ∀ k, P k → ¬ S k ∧ k < w2.heap.size := fun k hk => ⟨(hP k hk).1, Nat.lt_of_lt_of_le (hP k hk).2 hA2.size⟩
    have H3 := hideIt (fields_any w2 p q m zs S P k M sa sc oa oc ba bc (cd.after hcut) (x.after hcut) hP2 hl (.inr hok))
    obtain ⟨_, y0, y1, _, _⟩ := two_at kc2.at0
    unfold Msg.cells at kb2
    unfold Msg.val at H3
    obtain ⟨mk, ms, mc, mr, mq, mo, mb⟩ := M
    dsimp only at kb2 H3
    obtain ⟨_, ⟨m0, m1, m2, m3, m4, m5, m6⟩, _⟩ := seven_at kb2.at0
    have HY := hideIt (And.intro hA2 (And.intro kb2 (And.intro hP (And.intro hg hcut))))
    clear hA kc kb cd x hP hg hl hcut kc2 kb2 hA2 hP2 d0 d1 HX
    go_wp2_with fail
    refine H3.out.mono ?_
    clear H3
    intro e w3 h3
    obtain ⟨hA2, kb2, hP, hg, hcut⟩ := HY.out
    rcases h3.split with ⟨c9, e3, rfl, t⟩ | ⟨X, us, e3, ⟨xa, xc, ya, yc, za, zc, rfl, x3, o3⟩, S3, k3, s3⟩
    · exact ⟨rfl, Ends.bad (E.out.trans e3) ⟨rfl, hA2.but.trans t⟩⟩
    have kb3 := kb2.step s3
    obtain ⟨_, _, ⟨f0, f1, f2, f3, f4, f5, f6⟩⟩ := seven_at kb3.at0
    obtain ⟨_, ⟨c0, c1, c2, c3, c4, c5, c6⟩, _⟩ := seven_at kb3.at0
    have HZ := hideIt (And.intro kb3 (And.intro x3 (And.intro o3 (And.intro k3 (And.intro s3 (And.intro (E.out.trans e3) (And.intro hA2 (And.intro hP hg))))))))
    clear hA2 kb2 hP hg hcut h3 e3 x3 o3 k3 s3 kb3 HY E m0 m1 m2 m3 m4 m5 m6
    obtain ⟨Xk, Xs, Xc, Xr, Xq, Xo, Xb⟩ := X
    unfold Msg.val
    dsimp only
    go_wp2_with fail
    first | go_end0 | refine bodyPost_ret (results_none rfl _ _ _) rfl ?_
    obtain ⟨kb3, x3, o3, k3, s3, E, hA2, hP, hg⟩ := HZ.out
    have hgs : g < w2.heap.size := Nat.lt_of_lt_of_le hgw hA2.size
    refine Ends.ok E ⟨rfl, ⟨xa, xc, ya, yc, za, zc, seven_sets kb3.at0 _ _ _ _ _ _ _, ?_, fun hm => ?_⟩, S3, ?_, ?_, fun k hk => (s3.new k hk).imp_right (fun h => Nat.le_trans hA2.size h)⟩
    · refine (x3.but (T := One g) ?_ (fun k hk e => ?_)).mono (fun k hk => hk.imp_right (fun h => Nat.le_trans hA2.size h))
      · iterate 7 refine But.set (S := One g) ?_ ⟨g, _, none⟩ (fun _ => Eq.refl g) _
        exact But.rfl
      · cases (show k = g from e); exact hk.elim hg (fun h => by omega)
    · refine own_base (own_but (S := One g) (o3 hm) ?_ (fun k hk e => ?_)) (fun k hk => Nat.le_trans hA2.size ((o3 hm).lt k hk).1)
      · iterate 7 refine But.set (S := One g) ?_ ⟨g, _, none⟩ (fun _ => Eq.refl g) _
        exact But.rfl
      · cases (show k = g from e); have := ((o3 hm).lt _ hk).1; omega
    · iterate 7 refine Cod.set ?_ kb3.out _ _
      exact k3
    · iterate 7 refine But.set ?_ _ (fun _ => .inr rfl) _
      exact (hA2.but.trans s3.but).mono (fun i _ h => .inl h)
set_option maxHeartbeats 1000000 in
theorem in41 (w : World) (p q : Option Addr) (m : Bool) (zs : List Int) (S P : Nat → Prop) (g : Nat) (k : Int) (M : Msg) (sa : Option Addr) (sc : Nat) (oa : Option Addr) (oc : Nat) (ba : Option Addr) (bc : Nat) (cd : Cod w p q m zs S) (kb : Keeps w S g (.cells (M.cells sa sc oa oc ba bc) 31 (0, 0))) (x : MsgX w P M sa sc oa oc ba bc) (hP : ∀ k, P k → ¬ S k ∧ k < w.heap.size) (hg : ¬ P g) (hl : m = true → zs.length ≤ 900000000) (hkn : k ≠ 59136) :
    Calls Tryz.prog 59 #[Co p q, .int .i64 k, Ptr g] w fun e w' => Ends (insF m alone k M zs) (fun X us => e = .returned (.tuple #[]) ∧ Vars w w' m g P X ∧ ∃ S', Cod w' p q m us S' ∧ StpV S g w S' w') (fun c => e = .panicked (Halt c) ∧ But S w w') := by
  have hkd : (k != 59136) = true := by simpa using hkn
  have hgw := kb.lt
  have ng1 : ¬ g = w.heap.size := by omega
  have ng2 : ¬ w.heap.size = g := by omega
  have hA : After w (w.alloc (.cells #[.pointer p, .pointer q] 79)) := After.rfl.alloc _
  have b0 := new1 w (.cells #[.pointer p, .pointer q] 79)
  have kc : Keeps _ S w.heap.size _ := ⟨b0, fun h => absurd (cd.lt _ h) (by omega)⟩
  have kb1 := kb.after hA
  have cd1 := cd.after hA
  have x1 := x.after hA
  obtain ⟨w1, hw1⟩ : ∃ w1, w.alloc (.cells #[.pointer p, .pointer q] 79) = w1 := ⟨_, rfl⟩
  rw [hw1] at hA kc kb1 cd1 x1
  obtain ⟨_, d0, d1, _, _⟩ := two_at kc.at0
  have HN := hideIt (show ∀ W, Calls Tryz.prog 60 #[Co p q, .bool false] W fun e w' => e = .panicked (Halt (stp m 4)) ∧ After W w' from fun W => by have := must_no W p q; rw [cd.mode] at this; exact this)
  have HX := hideIt (And.intro hA (And.intro kc (And.intro kb1 (And.intro cd1 (And.intro x1 (And.intro hP (And.intro hg hl)))))))
  clear hA b0 kc kb kb1 cd cd1 x x1 hP hg hl
  cases hok : alone k with
  | false =>
    have E := hideIt (show insF m alone k M zs = .error (stp m 4) from if_neg (by rw [hok]; decide))
    go_enter Tryz.func59, Tryz.ntmps59
    go_wp2_with fail
    clear hw1
    refine wp_region_held_drew (S := (fun W => W.cell? ⟨w.heap.size, 0, none⟩ = some (.pointer p) ∧ W.cell? ⟨w.heap.size, 1, none⟩ = some (.pointer q) ∧ After w1 W)) rfl ⟨d0, d1, After.rfl.draws 1⟩ (fun hHeld => ?_)
    refine' takeD (i := 0) (d := some 7) (v := _) rfl rfl (by kernel_rfl) (by kernel_rfl) (by kernel_rfl) (fun _ _ _ h => h) (by rfl) hHeld (fun w hSw => ?_) ?_
    rotate_left 1
    · (try dsimp only at hSw)
      go_simp
      try with_reducible rfl
    try simp only [Act.put, List.setIfInBounds_toArray, List.set_cons_zero, List.set_cons_succ]
    refine' takeD (i := 1) (d := some 8) (v := _) rfl rfl (by kernel_rfl) (by kernel_rfl) (by kernel_rfl) (fun _ _ _ h => h) (by rfl) hHeld (fun w hSw => ?_) ?_
    rotate_left 1
    · (try dsimp only at hSw)
      go_simp
      try with_reducible rfl
    try simp only [Act.put, List.setIfInBounds_toArray, List.set_cons_zero, List.set_cons_succ]
    refine wpAnyH_ready (rs := [2]) (by kernel_rfl) (by simp) ?_
    refine AllReadyH.cons rfl (fun K hK => ?_) AllReadyH.nil
    go_simp
    refine (alone_any _ k).mono ?_
    rintro e w5 ⟨rfl, rfl⟩
    rw [hok]
    try go_wp2_with fail
    refine hK.out _ _ ?_ (fun hHeld2 => ?_)
    · exact hHeld
    clear hK K
    try simp only [Act.put, List.setIfInBounds_toArray, List.set_cons_zero, List.set_cons_succ]
    refine wpAnyH_ready (rs := [3]) (by kernel_rfl) (by simp) ?_
    refine AllReadyH.cons rfl (fun K hK => ?_) AllReadyH.nil
    go_simp
    refine (HN.out _).mono ?_
    rintro e w6 ⟨rfl, h6⟩
    exact ⟨rfl, Ends.bad E.out ⟨rfl, (HX.out.1.trans (hHeld2.2.2.trans h6)).but⟩⟩
  | true =>
    have E := hideIt (show insF m alone k M zs = fieldsF m k M zs from if_pos hok)
    go_enter Tryz.func59, Tryz.ntmps59
    go_wp2_with fail
    clear hw1
    refine wp_region_held_drew (S := (fun W => W.cell? ⟨w.heap.size, 0, none⟩ = some (.pointer p) ∧ W.cell? ⟨w.heap.size, 1, none⟩ = some (.pointer q) ∧ After w1 W)) rfl ⟨d0, d1, After.rfl.draws 1⟩ (fun hHeld => ?_)
    refine' takeD (i := 0) (d := some 7) (v := _) rfl rfl (by kernel_rfl) (by kernel_rfl) (by kernel_rfl) (fun _ _ _ h => h) (by rfl) hHeld (fun w hSw => ?_) ?_
    rotate_left 1
    · (try dsimp only at hSw)
      go_simp
      try with_reducible rfl
    try simp only [Act.put, List.setIfInBounds_toArray, List.set_cons_zero, List.set_cons_succ]
    refine' takeD (i := 1) (d := some 8) (v := _) rfl rfl (by kernel_rfl) (by kernel_rfl) (by kernel_rfl) (fun _ _ _ h => h) (by rfl) hHeld (fun w hSw => ?_) ?_
    rotate_left 1
    · (try dsimp only at hSw)
      go_simp
      try with_reducible rfl
    try simp only [Act.put, List.setIfInBounds_toArray, List.set_cons_zero, List.set_cons_succ]
    refine wpAnyH_ready (rs := [2]) (by kernel_rfl) (by simp) ?_
    refine AllReadyH.cons rfl (fun K hK => ?_) AllReadyH.nil
    go_simp
    refine (alone_any _ k).mono ?_
    rintro e w5 ⟨rfl, rfl⟩
    rw [hok]
    try go_wp2_with fail
    refine hK.out _ _ ?_ (fun hHeld2 => ?_)
    · exact hHeld
    clear hK K
    try simp only [Act.put, List.setIfInBounds_toArray, List.set_cons_zero, List.set_cons_succ]
    refine wpAnyH_ready (rs := [3]) (by kernel_rfl) (by simp) ?_
    refine AllReadyH.cons rfl (fun K hK => ?_) AllReadyH.nil
    go_simp
    refine (must_yes _ p q).mono ?_
    rintro e w2 ⟨rfl, h6⟩
    try go_wp2_with fail
    refine hK.out _ _ ?_ (fun hHeld3 => ?_)
    · exact ⟨by rw [h6.cell (Nat.lt_of_lt_of_le HX.out.2.1.lt hHeld2.2.2.size)]; exact hHeld2.1, by rw [h6.cell (Nat.lt_of_lt_of_le HX.out.2.1.lt hHeld2.2.2.size)]; exact hHeld2.2.1, hHeld2.2.2.trans h6⟩
    clear hK K
    try simp only [Act.put, List.setIfInBounds_toArray, List.set_cons_zero, List.set_cons_succ]
    refine wpAnyH_done (by kernel_rfl) ?_ _
    have hcut := hHeld3.2.2
    clear hHeld hHeld2 hHeld3 h6
    obtain ⟨hA, kc, kb, cd, x, hP, hg, hl⟩ := HX.out
    have kc2 := kc.after hcut
    have kb2 := kb.after hcut
    have hA2 := hA.trans hcut
    have hP2 : ∀ k, P k → ¬ S k ∧ k < w2.heap.size := fun k hk => ⟨(hP k hk).1, Nat.lt_of_lt_of_le (hP k hk).2 hA2.size⟩
    have H3 := hideIt (fields_any w2 p q m zs S P k M sa sc oa oc ba bc (cd.after hcut) (x.after hcut) hP2 hl (.inl hok))
    obtain ⟨_, y0, y1, _, _⟩ := two_at kc2.at0
    unfold Msg.cells at kb2
    unfold Msg.val at H3
    obtain ⟨mk, ms, mc, mr, mq, mo, mb⟩ := M
    dsimp only at kb2 H3
    obtain ⟨_, ⟨m0, m1, m2, m3, m4, m5, m6⟩, _⟩ := seven_at kb2.at0
    have HY := hideIt (And.intro hA2 (And.intro kb2 (And.intro hP (And.intro hg hcut))))
    clear hA kc kb cd x hP hg hl hcut kc2 kb2 hA2 hP2 d0 d1 HX
    go_wp2_with fail
    refine H3.out.mono ?_
    clear H3
    intro e w3 h3
    obtain ⟨hA2, kb2, hP, hg, hcut⟩ := HY.out
    rcases h3.split with ⟨c9, e3, rfl, t⟩ | ⟨X, us, e3, ⟨xa, xc, ya, yc, za, zc, rfl, x3, o3⟩, S3, k3, s3⟩
    · exact ⟨rfl, Ends.bad (E.out.trans e3) ⟨rfl, hA2.but.trans t⟩⟩
    have kb3 := kb2.step s3
    obtain ⟨_, _, ⟨f0, f1, f2, f3, f4, f5, f6⟩⟩ := seven_at kb3.at0
    obtain ⟨_, ⟨c0, c1, c2, c3, c4, c5, c6⟩, _⟩ := seven_at kb3.at0
    have HZ := hideIt (And.intro kb3 (And.intro x3 (And.intro o3 (And.intro k3 (And.intro s3 (And.intro (E.out.trans e3) (And.intro hA2 (And.intro hP hg))))))))
    clear hA2 kb2 hP hg hcut h3 e3 x3 o3 k3 s3 kb3 HY E m0 m1 m2 m3 m4 m5 m6
    obtain ⟨Xk, Xs, Xc, Xr, Xq, Xo, Xb⟩ := X
    unfold Msg.val
    dsimp only
    go_wp2_with fail
    first | go_end0 | refine bodyPost_ret (results_none rfl _ _ _) rfl ?_
    obtain ⟨kb3, x3, o3, k3, s3, E, hA2, hP, hg⟩ := HZ.out
    have hgs : g < w2.heap.size := Nat.lt_of_lt_of_le hgw hA2.size
    refine Ends.ok E ⟨rfl, ⟨xa, xc, ya, yc, za, zc, seven_sets kb3.at0 _ _ _ _ _ _ _, ?_, fun hm => ?_⟩, S3, ?_, ?_, fun k hk => (s3.new k hk).imp_right (fun h => Nat.le_trans hA2.size h)⟩
    · refine (x3.but (T := One g) ?_ (fun k hk e => ?_)).mono (fun k hk => hk.imp_right (fun h => Nat.le_trans hA2.size h))
      · iterate 7 refine But.set (S := One g) ?_ ⟨g, _, none⟩ (fun _ => Eq.refl g) _
        exact But.rfl
      · cases (show k = g from e); exact hk.elim hg (fun h => by omega)
    · refine own_base (own_but (S := One g) (o3 hm) ?_ (fun k hk e => ?_)) (fun k hk => Nat.le_trans hA2.size ((o3 hm).lt k hk).1)
      · iterate 7 refine But.set (S := One g) ?_ ⟨g, _, none⟩ (fun _ => Eq.refl g) _
        exact But.rfl
      · cases (show k = g from e); have := ((o3 hm).lt _ hk).1; omega
    · iterate 7 refine Cod.set ?_ kb3.out _ _
      exact k3
    · iterate 7 refine But.set ?_ _ (fun _ => .inr rfl) _
      exact (hA2.but.trans s3.but).mono (fun i _ h => .inl h)
end Go.Proofs.YthcfdoafncbliaaGreat
/-
  New coders; how many bytes are left to one; what one has written.
-/
namespace Go.Proofs.YthcfdoafncbliaaGreat
open Go.RowKit
set_option maxRecDepth 8000
theorem writer_any (w : World) : Calls Tryz.prog 36 #[] w fun e w' => ∃ q S, e = .returned (Co none q) ∧ Cod w' none q true [] S ∧ After w w' ∧ ∀ k, S k → w.heap.size ≤ k := by
  have HA := hideIt (show After w (w.alloc (.cells #[.pointer none, .pointer none] 79)) from After.rfl.alloc _)
  have b0 := new1 w (.cells #[.pointer none, .pointer none] 79)
  have HB := hideIt b0
  have H1 := hideIt (write_any (w.alloc (.cells #[.pointer none, .pointer none] 79)))
  clear b0
  go_enter Tryz.func36, Tryz.ntmps36
  go_wp2_with fail
  refine H1.out.mono ?_
  rintro e w1 ⟨rfl, r1, a1⟩
  have hb : w1.heap[w.heap.size]? = some (.cells #[.pointer none, .pointer none] 79 (0, 0)) := (But.block a1 _ (by simp) (fun t => t)).trans HB.out
  obtain ⟨_, c0, c1, f0, f1⟩ := two_at hb
  have HX := hideIt (And.intro r1 a1)
  rw [World.size_alloc]
  clear r1 a1 hb H1
  go_wp2_with fail
  obtain ⟨r1, a1⟩ := HX.out
  rw [World.size_alloc] at r1
  refine bodyPost_ret (v := Co none (some ⟨w.heap.size + 1, 0, none⟩)) (by simp [results, Tryz.results36, go_sem, c0, c1]) rfl ⟨some ⟨w.heap.size + 1, 0, none⟩, Own (w.heap.size + 1) (.slice none 0 0), rfl, ⟨.inr ⟨rfl, w.heap.size + 1, .slice none 0 0, rfl, rfl, ?_, rfl⟩, fun k hk => ?_⟩, ?_, fun k hk => ?_⟩
  · refine r1.but (S := One w.heap.size) ?_ (fun h => by have : w.heap.size + 1 = w.heap.size := h; omega) (fun k hk => by cases hk)
    iterate 2 refine But.set (S := One w.heap.size) ?_ ⟨w.heap.size, _, none⟩ (fun _ => Eq.refl _) _
    exact But.rfl
  · rcases hk with rfl | hk
    · have := (two_at r1.1).1; simpa using this
    · cases hk
  · iterate 2 refine After.set ?_ _ (Nat.le_refl _) _
    exact HA.out.trans a1
  · rcases hk with rfl | hk
    · omega
    · cases hk
theorem reader_any (w : World) (a : Option Addr) (n c : Nat) (bs : List Int) (hr : Row w a n bs) (ha : a = none → n = 0 ∧ c = 0) (hn : n ≤ 140737488355328) :
    Calls Tryz.prog 83 #[.slice a n c] w fun e w' => ∃ p S, e = .returned (Co p none) ∧ Cod w' p none false bs S ∧ After w w' ∧ ∀ k, S k → w.heap.size ≤ k := by
  have HA := hideIt (show After w (w.alloc (.cells #[.pointer none, .pointer none] 79)) from After.rfl.alloc _)
  have HB := hideIt (new1 w (.cells #[.pointer none, .pointer none] 79))
  have H1 := hideIt (new_any a n c bs _ (hr.after HA.out) ha hn)
  clear hr ha hn
  go_enter Tryz.func83, Tryz.ntmps83
  go_wp2_with fail
  refine H1.out.mono ?_
  rintro e w1 ⟨g, h, rfl, r1, hg, hh, a1⟩
  have hb : w1.heap[w.heap.size]? = some (.cells #[.pointer none, .pointer none] 79 (0, 0)) := (But.block a1 _ (by simp) (fun t => t)).trans HB.out
  obtain ⟨_, c0, c1, f0, f1⟩ := two_at hb
  rw [World.size_alloc] at hg hh
  have HX := hideIt (And.intro r1 (And.intro a1 (And.intro hg hh)))
  clear r1 a1 hb H1 hg hh
  go_wp2_with fail
  obtain ⟨r1, a1, hg, hh⟩ := HX.out
  obtain ⟨S', k1, s1⟩ := rd_step r1 (But.rfl (S := One g) (w := w1))
  refine bodyPost_ret (v := Co (some ⟨g, 0, none⟩) none) (by simp [results, Tryz.results83, go_sem, c0, c1]) rfl ⟨some ⟨g, 0, none⟩, Two g h, rfl, ⟨.inl ⟨rfl, g, h, rfl, rfl, ?_, rfl⟩, fun k hk => ?_⟩, ?_, fun k hk => ?_⟩
  · refine r1.but (S := One w.heap.size) ?_ (fun e => by have : g = w.heap.size := e; omega) (fun e => by have : h = w.heap.size := e; omega)
    iterate 2 refine But.set (S := One w.heap.size) ?_ ⟨w.heap.size, _, none⟩ (fun _ => Eq.refl _) _
    exact But.rfl
  · have hgl := r1.lt
    rw [World.size_setCell, World.size_setCell]
    rcases hk with rfl | rfl
    · exact hgl
    · obtain ⟨a', n', c', _, _, _, _, h5⟩ := r1
      rcases h5 with ⟨_, _, _, rfl⟩ | ⟨off, _, _, hl⟩
      · exact hgl
      · exact hl
  · iterate 2 refine After.set ?_ _ (Nat.le_refl _) _
    exact HA.out.trans a1
  · rcases hk with rfl | rfl <;> omega
/-- How many bytes are left. -/
theorem c_left (w : World) (p : Option Addr) (zs : List Int) (S : Nat → Prop) (c : Cod w p none false zs S) : Calls Tryz.prog 84 #[.pointer p] w fun e w' => e = .returned (.int .i64 zs.length) ∧ w' = w := by
  rcases c.is with ⟨_, g, h, rfl, _, r, _⟩ | ⟨h, _⟩
  · exact left_any w g h zs r
  · cases h
/-- What was written. -/
theorem c_bytes (w : World) (q : Option Addr) (zs : List Int) (S : Nat → Prop) (c : Cod w none q true zs S) (hl : zs.length ≤ 1000000000) : Calls Tryz.prog 42 #[.pointer q] w fun e w' => ∃ a c, e = .returned (.slice a zs.length c) ∧ w'.ownsRow w.heap.size 5 1 (.slice a zs.length c) zs.length (u8s zs) ∧ After w w' := by
  rcases c.is with ⟨h, _⟩ | ⟨_, g, v, _, rfl, r, _⟩
  · cases h
  · refine (wBytes_any w g v zs r (by omega)).mono ?_
    rintro e w1 ⟨x, rfl, ho, ha⟩
    obtain ⟨a, c, rfl⟩ := own_slice ho
    exact ⟨a, c, rfl, ho, ha⟩
end Go.Proofs.YthcfdoafncbliaaGreat
