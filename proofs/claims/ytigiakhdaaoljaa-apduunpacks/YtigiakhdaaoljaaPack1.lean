/-
  What Pack does with a coder: the message is written, and nothing of it may be left out.
-/
import Derived.Test.YtigiakhdaaoljaaSameF
namespace Go.Proofs.Ytigiakhdaaoljaa
open Go.RowKit
set_option maxRecDepth 8000
def sameM (M X : Msg) : Bool := sameB M.sys.length X.sys.length M.config X.config M.result X.result M.reason X.reason M.objs.length X.objs.length M.obs.length X.obs.length
/-- A message's bytes, of one whose kind and whose lists may be. -/
def packF (M : Msg) : Except Int (Unit × List Int) := thn (msgF true M []) fun X zs => if sameM M X = true then .ok ((), zs) else .error 2
set_option maxHeartbeats 1000000 in
theorem pack1 (w : World) (ga gc : Nat) (q : Option Addr) (S P : Nat → Prop) (M : Msg) (sa : Option Addr) (sc : Nat) (oa : Option Addr) (oc : Nat) (ba : Option Addr) (bc : Nat) (ka : Keeps w S ga (.cells (M.cells sa sc oa oc ba bc) 26 (0, 0))) (kc : Keeps w S gc (.cells #[.pointer none, .pointer q] 52 (0, 0))) (cd : Cod w none q true [] S) (x : MsgX w P M sa sc oa oc ba bc) (hP : ∀ k, P k → ¬ S k ∧ k < w.heap.size) :
    Calls Try.prog 24 #[Ptr ga, Ptr gc] w fun e w' => Ends (packF M) (fun _ zs => e = .returned (.tuple #[]) ∧ Went w w' none q true S zs) (fun c => e = .panicked (Halt c) ∧ But S w w') := by
  have HM := hideIt (fun W (h : After w W) => c_message W none q true [] S P M sa sc oa oc ba bc (cd.after h) (x.after h) (fun k hk => ⟨(hP k hk).1, Nat.lt_of_lt_of_le (hP k hk).2 h.size⟩) (fun _ => by simp))
  have HP := hideIt (show ∀ X zs, msgF true M [] = .ok (X, zs) → packF M = if sameM M X = true then .ok ((), zs) else .error 2 from fun X zs e => thn_ok e)
  have HB := hideIt (show ∀ c, msgF true M [] = .error c → packF M = .error c from fun c e => thn_bad e)
  have hk9 := ka
  unfold Msg.cells at hk9
  have HK := hideIt (And.intro hk9 kc)
  have ka0 := ka.at0
  unfold Msg.cells at ka0
  obtain ⟨_, ⟨g0, g1, g2, g3, g4, g5, g6⟩, _⟩ := seven_at ka0
  obtain ⟨_, d0, d1, _, _⟩ := two_at kc.at0
  have HS := hideIt (cd.lt)
  clear cd x hP ka kc ka0 hk9
  unfold sameM at HP
  unfold Msg.val at HM
  generalize msgF true M [] = R at HM HP HB
  generalize packF M = PF at HP HB ⊢
  obtain ⟨mk, ms, mc, mr, mq, mo, mb⟩ := M
  dsimp only at HM HP HK g0 g1 g2 g3 g4 g5 g6
  generalize ms.length = n1 at HM HP HK g1
  generalize mo.length = n2 at HM HP HK g5
  generalize mb.length = n3 at HM HP HK g6
  go_enter Try.func24, Try.ntmps24
  go_wp2_with fail
  refine wp_region_held_drew (S := (fun W => W.cell? ⟨ga, 0, none⟩ = some (.int .i64 mk) ∧ W.cell? ⟨ga, 1, none⟩ = some (.slice sa n1 sc) ∧ W.cell? ⟨ga, 2, none⟩ = some (.int .i64 mc) ∧ W.cell? ⟨ga, 3, none⟩ = some (.int .i64 mr) ∧ W.cell? ⟨ga, 4, none⟩ = some (.int .i64 mq) ∧ W.cell? ⟨ga, 5, none⟩ = some (.slice oa n2 oc) ∧ W.cell? ⟨ga, 6, none⟩ = some (.slice ba n3 bc) ∧ W.cell? ⟨gc, 0, none⟩ = some (.pointer none) ∧ W.cell? ⟨gc, 1, none⟩ = some (.pointer q))) rfl ⟨g0, g1, g2, g3, g4, g5, g6, d0, d1⟩ (fun hHeld => ?_)
  refine' takeD (i := 0) (d := some 2) (v := _) rfl rfl (by kernel_rfl) (by kernel_rfl) (by kernel_rfl) (fun _ _ _ h => h) (by rfl) hHeld (fun w hSw => ?_) ?_
  rotate_left 1
  · (try dsimp only at hSw)
    go_simp
    try with_reducible rfl
  try simp only [Act.put, List.setIfInBounds_toArray, List.set_cons_zero, List.set_cons_succ]
  refine' takeD (i := 1) (d := some 3) (v := _) rfl rfl (by kernel_rfl) (by kernel_rfl) (by kernel_rfl) (fun _ _ _ h => h) (by rfl) hHeld (fun w hSw => ?_) ?_
  rotate_left 1
  · (try dsimp only at hSw)
    go_simp
    try with_reducible rfl
  try simp only [Act.put, List.setIfInBounds_toArray, List.set_cons_zero, List.set_cons_succ]
  refine' takeD (i := 2) (d := some 4) (v := _) rfl rfl (by kernel_rfl) (by kernel_rfl) (by kernel_rfl) (fun _ _ _ h => h) (by rfl) hHeld (fun w hSw => ?_) ?_
  rotate_left 1
  · (try dsimp only at hSw)
    go_simp
    try with_reducible rfl
  try simp only [Act.put, List.setIfInBounds_toArray, List.set_cons_zero, List.set_cons_succ]
  refine wpAnyH_ready (rs := [3]) (by kernel_rfl) (by simp) ?_
  refine AllReadyH.cons rfl (fun K hK => ?_) AllReadyH.nil
  go_simp
  refine (HM.out _ (After.rfl.draws 1)).mono ?_
  intro e w5 h5
  rcases h5.split with ⟨c9, e1, rfl, t⟩ | ⟨X, zs, e1, ⟨xa, xc, ya, yc, za, zc, rfl, _⟩, S', k', s'⟩
  · exact ⟨rfl, Ends.bad (HB.out _ e1) ⟨rfl, (After.rfl.draws 1).but.trans t⟩⟩
  have HE := hideIt (And.intro (HP.out _ _ e1) (And.intro k' s'))
  have ka5 := ((HK.out.1.after (After.rfl.draws 1)).step s')
  have kc5 := ((HK.out.2.after (After.rfl.draws 1)).step s')
  obtain ⟨_, ⟨y0, y1, y2, y3, y4, y5, y6⟩, _⟩ := seven_at ka5.at0
  obtain ⟨_, v0, v1, _, _⟩ := two_at kc5.at0
  have HC := hideIt (fun W (h : After w5 W) => c_stop W none q true zs S' 2 (k'.after h))
  have HK5 := hideIt (And.intro ka5 kc5)
  obtain ⟨Xk, Xs, Xc, Xr, Xq, Xo, Xb⟩ := X
  dsimp only [Msg.val] at HE ⊢
  clear h5 e1 k' s' ka5 kc5 HM HP HB
  generalize Xs.length = m1 at HE ⊢
  generalize Xo.length = m2 at HE ⊢
  generalize Xb.length = m3 at HE ⊢
  try go_wp2_with fail
  refine hK.out _ _ ?_ (fun hHeld3 => ?_)
  · exact ⟨y0, y1, y2, y3, y4, y5, y6, v0, v1⟩
  clear hK K y0 y1 y2 y3 y4 y5 y6 v0 v1
  try simp only [Act.put, List.setIfInBounds_toArray, List.set_cons_zero, List.set_cons_succ]
  cases hsm : sameB n1 m1 mc Xc mr Xr mq Xq n2 m2 n3 m3 with
  | false =>
    refine wpAnyH_ready (rs := [4]) (by kernel_rfl) (by simp) ?_
    refine AllReadyH.cons rfl (fun K hK => ?_) AllReadyH.nil
    go_simp
    refine (same25 _ _ _ _ _ _ _ _ _ _ _ _ _ _ _ _ _ _ _ _ _ _ _ _ _ _ _).mono ?_
    rintro e w6 ⟨rfl, h6⟩
    rw [hsm]
    try go_wp2_with fail
    refine hK.out _ _ ?_ (fun hHeld4 => ?_)
    · exact (by have hk := HK5.out.1.after h6; have hk2 := HK5.out.2.after h6; obtain ⟨_, ⟨y0, y1, y2, y3, y4, y5, y6⟩, _⟩ := seven_at hk.at0; obtain ⟨_, v0, v1, _, _⟩ := two_at hk2.at0; exact ⟨y0, y1, y2, y3, y4, y5, y6, v0, v1⟩)
    clear hK K
    try simp only [Act.put, List.setIfInBounds_toArray, List.set_cons_zero, List.set_cons_succ]
    refine' takeD (i := 5) (d := some 7) (v := _) rfl rfl (by kernel_rfl) (by kernel_rfl) (by kernel_rfl) (fun _ _ _ h => h) (by rfl) hHeld4 (fun w hSw => ?_) ?_
    rotate_left 1
    · (try dsimp only at hSw)
      go_simp
      try with_reducible rfl
    try simp only [Act.put, List.setIfInBounds_toArray, List.set_cons_zero, List.set_cons_succ]
    refine wpAnyH_done (by kernel_rfl) ?_ _
    clear hHeld hHeld3
    obtain ⟨_, _, _, _, _, _, _, v0, v1⟩ := hHeld4
    have HC6 := hideIt (HC.out w6 h6)
    have H6 := hideIt h6
    clear h6 HC HK HK5
    go_wp2_with fail
    refine HC6.out.mono ?_
    rintro e w7 ⟨rfl, h7⟩
    rw [hsm] at HE
    obtain ⟨e9, k', s'⟩ := HE.out
    exact ⟨rfl, Ends.bad (e9.trans (if_neg (by decide))) ⟨rfl, ((After.rfl.draws 1).but.trans s'.but).trans (H6.out.trans h7).but⟩⟩
  | true =>
    refine wpAnyH_ready (rs := [4]) (by kernel_rfl) (by simp) ?_
    refine AllReadyH.cons rfl (fun K hK => ?_) AllReadyH.nil
    go_simp
    refine (same25 _ _ _ _ _ _ _ _ _ _ _ _ _ _ _ _ _ _ _ _ _ _ _ _ _ _ _).mono ?_
    rintro e w6 ⟨rfl, h6⟩
    rw [hsm]
    try go_wp2_with fail
    refine hK.out _ _ ?_ (fun hHeld4 => ?_)
    · exact (by have hk := HK5.out.1.after h6; have hk2 := HK5.out.2.after h6; obtain ⟨_, ⟨y0, y1, y2, y3, y4, y5, y6⟩, _⟩ := seven_at hk.at0; obtain ⟨_, v0, v1, _, _⟩ := two_at hk2.at0; exact ⟨y0, y1, y2, y3, y4, y5, y6, v0, v1⟩)
    clear hK K
    try simp only [Act.put, List.setIfInBounds_toArray, List.set_cons_zero, List.set_cons_succ]
    refine' takeD (i := 5) (d := some 7) (v := _) rfl rfl (by kernel_rfl) (by kernel_rfl) (by kernel_rfl) (fun _ _ _ h => h) (by rfl) hHeld4 (fun w hSw => ?_) ?_
    rotate_left 1
    · (try dsimp only at hSw)
      go_simp
      try with_reducible rfl
    try simp only [Act.put, List.setIfInBounds_toArray, List.set_cons_zero, List.set_cons_succ]
    refine wpAnyH_done (by kernel_rfl) ?_ _
    clear hHeld hHeld3
    have H6 := hideIt h6
    clear h6 HC HK HK5 hHeld4
    go_wp2_with fail
    rw [hsm] at HE
    obtain ⟨e9, k', s'⟩ := HE.out
    first | go_end0 | refine bodyPost_ret (results_none rfl _ _ _) rfl ?_
    exact Ends.ok (e9.trans (if_pos rfl)) ⟨rfl, S', k'.after H6.out, (Stp.behind (After.rfl.draws 1) s').after H6.out⟩
end Go.Proofs.Ytigiakhdaaoljaa
