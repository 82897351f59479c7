/-
  Laid together: RefMay.
-/
import Derived.Test.YthcfdoafncbliaaGreatB17
import Derived.Test.YthcfdoafncbliaaGreatB18
/-
  The document's may: may a message of a kind that is known be?
-/
namespace Go.Proofs.YthcfdoafncbliaaGreat
open Go.RowKit
set_option maxRecDepth 8000
section
variable {P : Program} {ops : Array Oper} {Q : Exit → Act → World → Prop} {md : Region.Mode} {S : World → Prop}
/-- An operation that is not wanted is passed over. -/
theorem skipD {i : Nat} {oi : Oper} {d : Option Nat} {fuel : Nat} {listed : Array Bool} {a : Act} {w : World} (hi : ops[i]? = some oi) (hd : oi.dst = d)
    (hs : Region.noSelect ops = true) (hf : Region.free md ops listed i = true) (hr : (Region.ready md ops listed).contains i = true)
    (hQ : ∀ c a w, Q (.panic c) (a.put d undef) w → Q (.panic c) a w) (hw : Region.wanted oi (yielded ops a.tmps) = false) (hS : S w)
    (h : wpAnyH P md ops Q S fuel (listed.setIfInBounds i true) (a.put d undef) w) : wpAnyH P md ops Q S (fuel + 1) listed a w := by
  subst hd
  exact wpAnyH_take hi hs hf hr hQ (Or.inr ⟨hw, rfl⟩) hS h
end
theorem keep_sys (M : Msg) : M.sys.length = (keep M.kind M).sys.length → M.sys = (keep M.kind M).sys := by
  unfold keep Msg.zero
  repeat' split
  all_goals (first | exact fun _ => rfl | exact fun h => List.length_eq_zero_iff.1 h)
theorem keep_objs (M : Msg) : M.objs.length = (keep M.kind M).objs.length → M.objs = (keep M.kind M).objs := by
  unfold keep Msg.zero
  repeat' split
  all_goals (first | exact fun _ => rfl | exact fun h => List.length_eq_zero_iff.1 h)
theorem keep_obs (M : Msg) : M.obs.length = (keep M.kind M).obs.length → M.obs = (keep M.kind M).obs := by
  unfold keep Msg.zero
  repeat' split
  all_goals (first | exact fun _ => rfl | exact fun h => List.length_eq_zero_iff.1 h)
def goodO (l : List Ob) (i : Nat) : Prop := ∀ o, l[i]? = some o → wd o.h = true ∧ wd o.u = true ∧ ∀ k o', k < i → l[k]? = some o' → o'.h ≠ o.h
def goodB (l : List Bi) (i : Nat) : Prop := ∀ o, l[i]? = some o → wd o.h = true ∧ (o.l = false → o.b ≤ 65535)
/-- May it be? -/
def MayM (M : Msg) : Prop := eqM M (keep M.kind M) = true ∧ wd M.config = true ∧ wd M.result = true ∧ wd M.reason = true ∧ ¬ (M.kind = 57856 ∧ M.sys.length ≠ 8) ∧ (∀ i, i < M.objs.length → goodO M.objs i) ∧ (∀ i, i < M.obs.length → goodB M.obs i)
set_option maxHeartbeats 4000000 in
theorem may_any (w : World) (P : Nat → Prop) (M : Msg) (sa : Option Addr) (sc : Nat) (oa : Option Addr) (oc : Nat) (ba : Option Addr) (bc : Nat) (x : MsgX w P M sa sc oa oc ba bc) (hk : alone M.kind = true ∨ inData M.kind = true) (hol : M.objs.length ≤ 140737488355328) (hbl : M.obs.length ≤ 140737488355328) :
    Calls Tryz.prog 50 #[M.val sa sc oa oc ba bc] w fun e w' => ∃ f, e = .returned (.bool f) ∧ (f = true ↔ MayM M) ∧ After w w' := by
  obtain ⟨w0, hw0⟩ : ∃ w0, w.alloc (.cells (M.cells sa sc oa oc ba bc) 31) = w0 := ⟨_, rfl⟩
  have hA : After w w0 := by rw [← hw0]; exact After.rfl.alloc _
  have b0 : w0.heap[w.heap.size]? = some (.cells (M.cells sa sc oa oc ba bc) 31 (0, 0)) := by rw [← hw0]; exact new1 _ _
  have HK := hideIt (show ∀ W, After w0 W → Calls Tryz.prog 70 #[M.val sa sc oa oc ba bc] W fun e w' => After W w' ∧ ∃ V, e = .returned V ∧ ∀ W', After w' W' → Calls Tryz.prog 15 #[M.val sa sc oa oc ba bc, V] W' fun e w'' => e = .returned (.bool (eqM M (keep M.kind M))) ∧ After W' w'' from fun W h => by
    refine (kept_any W P M sa sc oa oc ba bc (x.after (hA.trans h)) hk).mono ?_
    rintro e w' ⟨sa', sc', oa', oc', ba', bc', rfl, y, a⟩
    refine ⟨a, _, rfl, fun W' a' => ?_⟩
    exact same13 W' P P M (keep M.kind M) sa sc oa oc ba bc sa' sc' oa' oc' ba' bc' (x.after (hA.trans (h.trans (a.trans a')))) (y.after a') (keep_sys M) (keep_objs M) (keep_obs M) hol hbl)
  have HR := hideIt (And.intro (x.or.after hA) (x.br.after hA))
  have HM := hideIt (show MayM M ↔ eqM M (keep M.kind M) = true ∧ wd M.config = true ∧ wd M.result = true ∧ wd M.reason = true ∧ ¬ (M.kind = 57856 ∧ M.sys.length ≠ 8) ∧ (∀ i, i < M.objs.length → goodO M.objs i) ∧ (∀ i, i < M.obs.length → goodB M.obs i) from Iff.rfl)
  have HL := hideIt (And.intro hol hbl)
  unfold Msg.cells at b0 hw0
  obtain ⟨_, ⟨g0, g1, g2, g3, g4, g5, g6⟩, _⟩ := seven_at b0
  have HX := hideIt (And.intro hA (And.intro b0 (show w.heap.size < w0.heap.size by rw [← hw0, World.size_alloc]; omega)))
  have HW := hideIt hw0
  clear x hk hol hbl hA b0 hw0
  generalize MayM M = MM at HM ⊢
  generalize eqM M (keep M.kind M) = sm at HK HM
  unfold Msg.val at HK
  unfold Msg.val
  obtain ⟨k, ms, c, r, q, mo, mb⟩ := M
  dsimp only at HK HR HM HL HX HW g0 g1 g2 g3 g4 g5 g6 ⊢
  generalize ms.length = s at HK HM HX HW g1 ⊢
  generalize mo.length = o at HK HR HM HL HX HW g5 ⊢
  generalize mb.length = b at HK HR HM HL HX HW g6 ⊢
  go_enter Tryz.func50, Tryz.ntmps50
  go_wp2_with fail
  rw [HW.out]
  refine wp_region_held_drew (S := (fun W => W.cell? ⟨w.heap.size, 0, none⟩ = some (.int .i64 k) ∧ W.cell? ⟨w.heap.size, 1, none⟩ = some (.slice sa s sc) ∧ W.cell? ⟨w.heap.size, 2, none⟩ = some (.int .i64 c) ∧ W.cell? ⟨w.heap.size, 3, none⟩ = some (.int .i64 r) ∧ W.cell? ⟨w.heap.size, 4, none⟩ = some (.int .i64 q) ∧ W.cell? ⟨w.heap.size, 5, none⟩ = some (.slice oa o oc) ∧ W.cell? ⟨w.heap.size, 6, none⟩ = some (.slice ba b bc) ∧ After w0 W ∧ w.heap.size < W.heap.size)) rfl ⟨g0, g1, g2, g3, g4, g5, g6, After.rfl.draws 1, by rw [World.size_drew]; exact HX.out.2.2⟩ (fun hHeld => ?_)
  generalize w0.drew = w1 at hHeld ⊢
  clear g0 g1 g2 g3 g4 g5 g6
  refine' takeD (i := 0) (d := some 6) (v := _) rfl rfl (by kernel_rfl) (by kernel_rfl) (by kernel_rfl) (fun _ _ _ h => h) (by rfl) hHeld (fun w hSw => ?_) ?_
  rotate_left 1
  · (try dsimp only at hSw)
    go_simp
    try with_reducible rfl
  try simp only [Act.put, List.setIfInBounds_toArray, List.set_cons_zero, List.set_cons_succ]
  refine' takeD (i := 1) (d := some 7) (v := _) rfl rfl (by kernel_rfl) (by kernel_rfl) (by kernel_rfl) (fun _ _ _ h => h) (by rfl) hHeld (fun w hSw => ?_) ?_
  rotate_left 1
  · (try dsimp only at hSw)
    go_simp
    try with_reducible rfl
  try simp only [Act.put, List.setIfInBounds_toArray, List.set_cons_zero, List.set_cons_succ]
  refine wpAnyH_ready (rs := [2]) (by kernel_rfl) (by simp) ?_
  refine AllReadyH.cons rfl (fun K hK => ?_) AllReadyH.nil
  go_simp
  refine (HK.out _ hHeld.2.2.2.2.2.2.2.1).mono ?_
  rintro e w2 ⟨h2, V, rfl, hsame⟩
  have HS := hideIt hsame
  clear hsame HK
  try go_wp2_with fail
  refine hK.out _ _ ?_ (fun hHeld2 => ?_)
  · exact ⟨by rw [h2.cell hHeld.2.2.2.2.2.2.2.2]; exact hHeld.1, by rw [h2.cell hHeld.2.2.2.2.2.2.2.2]; exact hHeld.2.1, by rw [h2.cell hHeld.2.2.2.2.2.2.2.2]; exact hHeld.2.2.1, by rw [h2.cell hHeld.2.2.2.2.2.2.2.2]; exact hHeld.2.2.2.1, by rw [h2.cell hHeld.2.2.2.2.2.2.2.2]; exact hHeld.2.2.2.2.1, by rw [h2.cell hHeld.2.2.2.2.2.2.2.2]; exact hHeld.2.2.2.2.2.1, by rw [h2.cell hHeld.2.2.2.2.2.2.2.2]; exact hHeld.2.2.2.2.2.2.1, hHeld.2.2.2.2.2.2.2.1.trans h2, Nat.lt_of_lt_of_le hHeld.2.2.2.2.2.2.2.2 h2.size⟩
  clear hK K
  try simp only [Act.put, List.setIfInBounds_toArray, List.set_cons_zero, List.set_cons_succ]
  refine wpAnyH_ready (rs := [3]) (by kernel_rfl) (by simp) ?_
  refine AllReadyH.cons rfl (fun K hK => ?_) AllReadyH.nil
  go_simp
  refine (HS.out _ After.rfl).mono ?_
  rintro e w3 ⟨rfl, h3⟩
  clear HS
  try go_wp2_with fail
  refine hK.out _ _ ?_ (fun hHeld3 => ?_)
  · exact ⟨by rw [h3.cell hHeld2.2.2.2.2.2.2.2.2]; exact hHeld2.1, by rw [h3.cell hHeld2.2.2.2.2.2.2.2.2]; exact hHeld2.2.1, by rw [h3.cell hHeld2.2.2.2.2.2.2.2.2]; exact hHeld2.2.2.1, by rw [h3.cell hHeld2.2.2.2.2.2.2.2.2]; exact hHeld2.2.2.2.1, by rw [h3.cell hHeld2.2.2.2.2.2.2.2.2]; exact hHeld2.2.2.2.2.1, by rw [h3.cell hHeld2.2.2.2.2.2.2.2.2]; exact hHeld2.2.2.2.2.2.1, by rw [h3.cell hHeld2.2.2.2.2.2.2.2.2]; exact hHeld2.2.2.2.2.2.2.1, hHeld2.2.2.2.2.2.2.2.1.trans h3, Nat.lt_of_lt_of_le hHeld2.2.2.2.2.2.2.2.2 h3.size⟩
  clear hK K
  try simp only [Act.put, List.setIfInBounds_toArray, List.set_cons_zero, List.set_cons_succ]
  clear hHeld hHeld2 h2 h3
  cases sm with
  | false =>
    refine' takeD (i := 4) (d := some 10) (v := _) rfl rfl (by kernel_rfl) (by kernel_rfl) (by kernel_rfl) (fun _ _ _ h => h) (by rfl) hHeld3 (fun w hSw => ?_) ?_
    rotate_left 1
    · (try dsimp only at hSw)
      go_simp
      try with_reducible rfl
    try simp only [Act.put, List.setIfInBounds_toArray, List.set_cons_zero, List.set_cons_succ]
    refine' takeD (i := 5) (d := some 11) (v := _) rfl rfl (by kernel_rfl) (by kernel_rfl) (by kernel_rfl) (fun _ _ _ h => h) (by rfl) hHeld3 (fun w hSw => ?_) ?_
    rotate_left 1
    · (try dsimp only at hSw)
      go_simp
      try with_reducible rfl
    try simp only [Act.put, List.setIfInBounds_toArray, List.set_cons_zero, List.set_cons_succ]
    refine' skipD (i := 6) (d := some 12) rfl rfl (by kernel_rfl) (by kernel_rfl) (by kernel_rfl) (fun _ _ _ h => h) (by rfl) hHeld3 ?_
    try simp only [Act.put, List.setIfInBounds_toArray, List.set_cons_zero, List.set_cons_succ]
    refine' skipD (i := 7) (d := some 13) rfl rfl (by kernel_rfl) (by kernel_rfl) (by kernel_rfl) (fun _ _ _ h => h) (by rfl) hHeld3 ?_
    try simp only [Act.put, List.setIfInBounds_toArray, List.set_cons_zero, List.set_cons_succ]
    refine' skipD (i := 8) (d := some 14) rfl rfl (by kernel_rfl) (by kernel_rfl) (by kernel_rfl) (fun _ _ _ h => h) (by rfl) hHeld3 ?_
    try simp only [Act.put, List.setIfInBounds_toArray, List.set_cons_zero, List.set_cons_succ]
    refine' skipD (i := 9) (d := some 15) rfl rfl (by kernel_rfl) (by kernel_rfl) (by kernel_rfl) (fun _ _ _ h => h) (by rfl) hHeld3 ?_
    try simp only [Act.put, List.setIfInBounds_toArray, List.set_cons_zero, List.set_cons_succ]
    refine' takeD (i := 10) (d := some 16) (v := _) rfl rfl (by kernel_rfl) (by kernel_rfl) (by kernel_rfl) (fun _ _ _ h => h) (by rfl) hHeld3 (fun w hSw => ?_) ?_
    rotate_left 1
    · (try dsimp only at hSw)
      go_simp
      try with_reducible rfl
    try simp only [Act.put, List.setIfInBounds_toArray, List.set_cons_zero, List.set_cons_succ]
    refine' takeD (i := 11) (d := some 17) (v := _) rfl rfl (by kernel_rfl) (by kernel_rfl) (by kernel_rfl) (fun _ _ _ h => h) (by rfl) hHeld3 (fun w hSw => ?_) ?_
    rotate_left 1
    · (try dsimp only at hSw)
      go_simp
      try with_reducible rfl
    try simp only [Act.put, List.setIfInBounds_toArray, List.set_cons_zero, List.set_cons_succ]
    refine' skipD (i := 12) (d := some 18) rfl rfl (by kernel_rfl) (by kernel_rfl) (by kernel_rfl) (fun _ _ _ h => h) (by rfl) hHeld3 ?_
    try simp only [Act.put, List.setIfInBounds_toArray, List.set_cons_zero, List.set_cons_succ]
    refine' skipD (i := 13) (d := some 19) rfl rfl (by kernel_rfl) (by kernel_rfl) (by kernel_rfl) (fun _ _ _ h => h) (by rfl) hHeld3 ?_
    try simp only [Act.put, List.setIfInBounds_toArray, List.set_cons_zero, List.set_cons_succ]
    refine' skipD (i := 14) (d := some 20) rfl rfl (by kernel_rfl) (by kernel_rfl) (by kernel_rfl) (fun _ _ _ h => h) (by rfl) hHeld3 ?_
    try simp only [Act.put, List.setIfInBounds_toArray, List.set_cons_zero, List.set_cons_succ]
    refine' skipD (i := 15) (d := some 21) rfl rfl (by kernel_rfl) (by kernel_rfl) (by kernel_rfl) (fun _ _ _ h => h) (by rfl) hHeld3 ?_
    try simp only [Act.put, List.setIfInBounds_toArray, List.set_cons_zero, List.set_cons_succ]
    refine' takeD (i := 16) (d := some 22) (v := _) rfl rfl (by kernel_rfl) (by kernel_rfl) (by kernel_rfl) (fun _ _ _ h => h) (by rfl) hHeld3 (fun w hSw => ?_) ?_
    rotate_left 1
    · (try dsimp only at hSw)
      go_simp
      try with_reducible rfl
    try simp only [Act.put, List.setIfInBounds_toArray, List.set_cons_zero, List.set_cons_succ]
    refine' takeD (i := 17) (d := some 23) (v := _) rfl rfl (by kernel_rfl) (by kernel_rfl) (by kernel_rfl) (fun _ _ _ h => h) (by rfl) hHeld3 (fun w hSw => ?_) ?_
    rotate_left 1
    · (try dsimp only at hSw)
      go_simp
      try with_reducible rfl
    try simp only [Act.put, List.setIfInBounds_toArray, List.set_cons_zero, List.set_cons_succ]
    refine' skipD (i := 18) (d := some 24) rfl rfl (by kernel_rfl) (by kernel_rfl) (by kernel_rfl) (fun _ _ _ h => h) (by rfl) hHeld3 ?_
    try simp only [Act.put, List.setIfInBounds_toArray, List.set_cons_zero, List.set_cons_succ]
    refine' skipD (i := 19) (d := some 25) rfl rfl (by kernel_rfl) (by kernel_rfl) (by kernel_rfl) (fun _ _ _ h => h) (by rfl) hHeld3 ?_
    try simp only [Act.put, List.setIfInBounds_toArray, List.set_cons_zero, List.set_cons_succ]
    refine' skipD (i := 20) (d := some 26) rfl rfl (by kernel_rfl) (by kernel_rfl) (by kernel_rfl) (fun _ _ _ h => h) (by rfl) hHeld3 ?_
    try simp only [Act.put, List.setIfInBounds_toArray, List.set_cons_zero, List.set_cons_succ]
    refine' skipD (i := 21) (d := some 27) rfl rfl (by kernel_rfl) (by kernel_rfl) (by kernel_rfl) (fun _ _ _ h => h) (by rfl) hHeld3 ?_
    try simp only [Act.put, List.setIfInBounds_toArray, List.set_cons_zero, List.set_cons_succ]
    refine' takeD (i := 22) (d := some 28) (v := _) rfl rfl (by kernel_rfl) (by kernel_rfl) (by kernel_rfl) (fun _ _ _ h => h) (by rfl) hHeld3 (fun w hSw => ?_) ?_
    rotate_left 1
    · (try dsimp only at hSw)
      go_simp
      try with_reducible rfl
    try simp only [Act.put, List.setIfInBounds_toArray, List.set_cons_zero, List.set_cons_succ]
    refine' takeD (i := 23) (d := some 29) (v := _) rfl rfl (by kernel_rfl) (by kernel_rfl) (by kernel_rfl) (fun _ _ _ h => h) (by rfl) hHeld3 (fun w hSw => ?_) ?_
    rotate_left 1
    · (try dsimp only at hSw)
      go_simp
      try with_reducible rfl
    try simp only [Act.put, List.setIfInBounds_toArray, List.set_cons_zero, List.set_cons_succ]
    refine' skipD (i := 24) (d := some 30) rfl rfl (by kernel_rfl) (by kernel_rfl) (by kernel_rfl) (fun _ _ _ h => h) (by rfl) hHeld3 ?_
    try simp only [Act.put, List.setIfInBounds_toArray, List.set_cons_zero, List.set_cons_succ]
    refine' skipD (i := 25) (d := some 31) rfl rfl (by kernel_rfl) (by kernel_rfl) (by kernel_rfl) (fun _ _ _ h => h) (by rfl) hHeld3 ?_
    try simp only [Act.put, List.setIfInBounds_toArray, List.set_cons_zero, List.set_cons_succ]
    refine' skipD (i := 26) (d := some 32) rfl rfl (by kernel_rfl) (by kernel_rfl) (by kernel_rfl) (fun _ _ _ h => h) (by rfl) hHeld3 ?_
    try simp only [Act.put, List.setIfInBounds_toArray, List.set_cons_zero, List.set_cons_succ]
    refine' skipD (i := 27) (d := some 33) rfl rfl (by kernel_rfl) (by kernel_rfl) (by kernel_rfl) (fun _ _ _ h => h) (by rfl) hHeld3 ?_
    try simp only [Act.put, List.setIfInBounds_toArray, List.set_cons_zero, List.set_cons_succ]
    refine' skipD (i := 28) (d := some 34) rfl rfl (by kernel_rfl) (by kernel_rfl) (by kernel_rfl) (fun _ _ _ h => h) (by rfl) hHeld3 ?_
    try simp only [Act.put, List.setIfInBounds_toArray, List.set_cons_zero, List.set_cons_succ]
    refine' skipD (i := 29) (d := some 35) rfl rfl (by kernel_rfl) (by kernel_rfl) (by kernel_rfl) (fun _ _ _ h => h) (by rfl) hHeld3 ?_
    try simp only [Act.put, List.setIfInBounds_toArray, List.set_cons_zero, List.set_cons_succ]
    refine' skipD (i := 30) (d := some 36) rfl rfl (by kernel_rfl) (by kernel_rfl) (by kernel_rfl) (fun _ _ _ h => h) (by rfl) hHeld3 ?_
    try simp only [Act.put, List.setIfInBounds_toArray, List.set_cons_zero, List.set_cons_succ]
    refine' skipD (i := 31) (d := some 37) rfl rfl (by kernel_rfl) (by kernel_rfl) (by kernel_rfl) (fun _ _ _ h => h) (by rfl) hHeld3 ?_
    try simp only [Act.put, List.setIfInBounds_toArray, List.set_cons_zero, List.set_cons_succ]
    refine' skipD (i := 32) (d := some 38) rfl rfl (by kernel_rfl) (by kernel_rfl) (by kernel_rfl) (fun _ _ _ h => h) (by rfl) hHeld3 ?_
    try simp only [Act.put, List.setIfInBounds_toArray, List.set_cons_zero, List.set_cons_succ]
    refine' takeD (i := 33) (d := some 39) (v := _) rfl rfl (by kernel_rfl) (by kernel_rfl) (by kernel_rfl) (fun _ _ _ h => h) (by rfl) hHeld3 (fun w hSw => ?_) ?_
    rotate_left 1
    · (try dsimp only at hSw)
      go_simp
      try with_reducible rfl
    try simp only [Act.put, List.setIfInBounds_toArray, List.set_cons_zero, List.set_cons_succ]
    refine wpAnyH_done (by kernel_rfl) ?_ _
    have HZ := hideIt (HX.out.1.trans hHeld3.2.2.2.2.2.2.2.1)
    clear hHeld3 HX
    go_wp2_with fail
    go_ret
    exact ⟨false, rfl, ⟨fun h => (by cases h), fun h => (by have h := HM.out.1 h; cases h.1)⟩, HZ.out⟩
  | true =>
    refine' takeD (i := 4) (d := some 10) (v := _) rfl rfl (by kernel_rfl) (by kernel_rfl) (by kernel_rfl) (fun _ _ _ h => h) (by rfl) hHeld3 (fun w hSw => ?_) ?_
    rotate_left 1
    · (try dsimp only at hSw)
      go_simp
      try with_reducible rfl
    try simp only [Act.put, List.setIfInBounds_toArray, List.set_cons_zero, List.set_cons_succ]
    refine' takeD (i := 5) (d := some 11) (v := _) rfl rfl (by kernel_rfl) (by kernel_rfl) (by kernel_rfl) (fun _ _ _ h => h) (by rfl) hHeld3 (fun w hSw => ?_) ?_
    rotate_left 1
    · (try dsimp only at hSw)
      go_simp
      try with_reducible rfl
    try simp only [Act.put, List.setIfInBounds_toArray, List.set_cons_zero, List.set_cons_succ]
    refine' takeD (i := 6) (d := some 12) (v := _) rfl rfl (by kernel_rfl) (by kernel_rfl) (by kernel_rfl) (fun _ _ _ h => h) (by rfl) hHeld3 (fun w hSw => ?_) ?_
    rotate_left 1
    · (try dsimp only at hSw)
      go_simp
      try with_reducible rfl
    try simp only [Act.put, List.setIfInBounds_toArray, List.set_cons_zero, List.set_cons_succ]
    refine' takeD (i := 7) (d := some 13) (v := _) rfl rfl (by kernel_rfl) (by kernel_rfl) (by kernel_rfl) (fun _ _ _ h => h) (by rfl) hHeld3 (fun w hSw => ?_) ?_
    rotate_left 1
    · (try dsimp only at hSw)
      go_simp
      try with_reducible rfl
    try simp only [Act.put, List.setIfInBounds_toArray, List.set_cons_zero, List.set_cons_succ]
    refine wpAnyH_ready (rs := [8]) (by kernel_rfl) (by simp) ?_
    refine AllReadyH.cons rfl (fun K hK => ?_) AllReadyH.nil
    go_simp
    refine (word_any _ c).mono ?_
    rintro e w9 ⟨rfl, rfl⟩
    try go_wp2_with fail
    refine hK.out _ _ ?_ (fun hHeld8 => ?_)
    · exact hHeld3
    clear hK K
    try simp only [Act.put, List.setIfInBounds_toArray, List.set_cons_zero, List.set_cons_succ]
    clear hHeld3
    cases hw0 : wd c with
    | false =>
      refine' takeD (i := 9) (d := some 15) (v := _) rfl rfl (by kernel_rfl) (by kernel_rfl) (by kernel_rfl) (fun _ _ _ h => h) (by rfl) hHeld8 (fun w hSw => ?_) ?_
      rotate_left 1
      · (try dsimp only at hSw)
        go_simp
        try with_reducible rfl
      try simp only [Act.put, List.setIfInBounds_toArray, List.set_cons_zero, List.set_cons_succ]
      refine' takeD (i := 10) (d := some 16) (v := _) rfl rfl (by kernel_rfl) (by kernel_rfl) (by kernel_rfl) (fun _ _ _ h => h) (by rfl) hHeld8 (fun w hSw => ?_) ?_
      rotate_left 1
      · (try dsimp only at hSw)
        go_simp
        try with_reducible rfl
      try simp only [Act.put, List.setIfInBounds_toArray, List.set_cons_zero, List.set_cons_succ]
      refine' takeD (i := 11) (d := some 17) (v := _) rfl rfl (by kernel_rfl) (by kernel_rfl) (by kernel_rfl) (fun _ _ _ h => h) (by rfl) hHeld8 (fun w hSw => ?_) ?_
      rotate_left 1
      · (try dsimp only at hSw)
        go_simp
        try with_reducible rfl
      try simp only [Act.put, List.setIfInBounds_toArray, List.set_cons_zero, List.set_cons_succ]
      refine' skipD (i := 12) (d := some 18) rfl rfl (by kernel_rfl) (by kernel_rfl) (by kernel_rfl) (fun _ _ _ h => h) (by rfl) hHeld8 ?_
      try simp only [Act.put, List.setIfInBounds_toArray, List.set_cons_zero, List.set_cons_succ]
      refine' skipD (i := 13) (d := some 19) rfl rfl (by kernel_rfl) (by kernel_rfl) (by kernel_rfl) (fun _ _ _ h => h) (by rfl) hHeld8 ?_
      try simp only [Act.put, List.setIfInBounds_toArray, List.set_cons_zero, List.set_cons_succ]
      refine' skipD (i := 14) (d := some 20) rfl rfl (by kernel_rfl) (by kernel_rfl) (by kernel_rfl) (fun _ _ _ h => h) (by rfl) hHeld8 ?_
      try simp only [Act.put, List.setIfInBounds_toArray, List.set_cons_zero, List.set_cons_succ]
      refine' skipD (i := 15) (d := some 21) rfl rfl (by kernel_rfl) (by kernel_rfl) (by kernel_rfl) (fun _ _ _ h => h) (by rfl) hHeld8 ?_
      try simp only [Act.put, List.setIfInBounds_toArray, List.set_cons_zero, List.set_cons_succ]
      refine' takeD (i := 16) (d := some 22) (v := _) rfl rfl (by kernel_rfl) (by kernel_rfl) (by kernel_rfl) (fun _ _ _ h => h) (by rfl) hHeld8 (fun w hSw => ?_) ?_
      rotate_left 1
      · (try dsimp only at hSw)
        go_simp
        try with_reducible rfl
      try simp only [Act.put, List.setIfInBounds_toArray, List.set_cons_zero, List.set_cons_succ]
      refine' takeD (i := 17) (d := some 23) (v := _) rfl rfl (by kernel_rfl) (by kernel_rfl) (by kernel_rfl) (fun _ _ _ h => h) (by rfl) hHeld8 (fun w hSw => ?_) ?_
      rotate_left 1
      · (try dsimp only at hSw)
        go_simp
        try with_reducible rfl
      try simp only [Act.put, List.setIfInBounds_toArray, List.set_cons_zero, List.set_cons_succ]
      refine' skipD (i := 18) (d := some 24) rfl rfl (by kernel_rfl) (by kernel_rfl) (by kernel_rfl) (fun _ _ _ h => h) (by rfl) hHeld8 ?_
      try simp only [Act.put, List.setIfInBounds_toArray, List.set_cons_zero, List.set_cons_succ]
      refine' skipD (i := 19) (d := some 25) rfl rfl (by kernel_rfl) (by kernel_rfl) (by kernel_rfl) (fun _ _ _ h => h) (by rfl) hHeld8 ?_
      try simp only [Act.put, List.setIfInBounds_toArray, List.set_cons_zero, List.set_cons_succ]
      refine' skipD (i := 20) (d := some 26) rfl rfl (by kernel_rfl) (by kernel_rfl) (by kernel_rfl) (fun _ _ _ h => h) (by rfl) hHeld8 ?_
      try simp only [Act.put, List.setIfInBounds_toArray, List.set_cons_zero, List.set_cons_succ]
      refine' skipD (i := 21) (d := some 27) rfl rfl (by kernel_rfl) (by kernel_rfl) (by kernel_rfl) (fun _ _ _ h => h) (by rfl) hHeld8 ?_
      try simp only [Act.put, List.setIfInBounds_toArray, List.set_cons_zero, List.set_cons_succ]
      refine' takeD (i := 22) (d := some 28) (v := _) rfl rfl (by kernel_rfl) (by kernel_rfl) (by kernel_rfl) (fun _ _ _ h => h) (by rfl) hHeld8 (fun w hSw => ?_) ?_
      rotate_left 1
      · (try dsimp only at hSw)
        go_simp
        try with_reducible rfl
      try simp only [Act.put, List.setIfInBounds_toArray, List.set_cons_zero, List.set_cons_succ]
      refine' takeD (i := 23) (d := some 29) (v := _) rfl rfl (by kernel_rfl) (by kernel_rfl) (by kernel_rfl) (fun _ _ _ h => h) (by rfl) hHeld8 (fun w hSw => ?_) ?_
      rotate_left 1
      · (try dsimp only at hSw)
        go_simp
        try with_reducible rfl
      try simp only [Act.put, List.setIfInBounds_toArray, List.set_cons_zero, List.set_cons_succ]
      refine' skipD (i := 24) (d := some 30) rfl rfl (by kernel_rfl) (by kernel_rfl) (by kernel_rfl) (fun _ _ _ h => h) (by rfl) hHeld8 ?_
      try simp only [Act.put, List.setIfInBounds_toArray, List.set_cons_zero, List.set_cons_succ]
      refine' skipD (i := 25) (d := some 31) rfl rfl (by kernel_rfl) (by kernel_rfl) (by kernel_rfl) (fun _ _ _ h => h) (by rfl) hHeld8 ?_
      try simp only [Act.put, List.setIfInBounds_toArray, List.set_cons_zero, List.set_cons_succ]
      refine' skipD (i := 26) (d := some 32) rfl rfl (by kernel_rfl) (by kernel_rfl) (by kernel_rfl) (fun _ _ _ h => h) (by rfl) hHeld8 ?_
      try simp only [Act.put, List.setIfInBounds_toArray, List.set_cons_zero, List.set_cons_succ]
      refine' skipD (i := 27) (d := some 33) rfl rfl (by kernel_rfl) (by kernel_rfl) (by kernel_rfl) (fun _ _ _ h => h) (by rfl) hHeld8 ?_
      try simp only [Act.put, List.setIfInBounds_toArray, List.set_cons_zero, List.set_cons_succ]
      refine' skipD (i := 28) (d := some 34) rfl rfl (by kernel_rfl) (by kernel_rfl) (by kernel_rfl) (fun _ _ _ h => h) (by rfl) hHeld8 ?_
      try simp only [Act.put, List.setIfInBounds_toArray, List.set_cons_zero, List.set_cons_succ]
      refine' skipD (i := 29) (d := some 35) rfl rfl (by kernel_rfl) (by kernel_rfl) (by kernel_rfl) (fun _ _ _ h => h) (by rfl) hHeld8 ?_
      try simp only [Act.put, List.setIfInBounds_toArray, List.set_cons_zero, List.set_cons_succ]
      refine' skipD (i := 30) (d := some 36) rfl rfl (by kernel_rfl) (by kernel_rfl) (by kernel_rfl) (fun _ _ _ h => h) (by rfl) hHeld8 ?_
      try simp only [Act.put, List.setIfInBounds_toArray, List.set_cons_zero, List.set_cons_succ]
      refine' skipD (i := 31) (d := some 37) rfl rfl (by kernel_rfl) (by kernel_rfl) (by kernel_rfl) (fun _ _ _ h => h) (by rfl) hHeld8 ?_
      try simp only [Act.put, List.setIfInBounds_toArray, List.set_cons_zero, List.set_cons_succ]
      refine' skipD (i := 32) (d := some 38) rfl rfl (by kernel_rfl) (by kernel_rfl) (by kernel_rfl) (fun _ _ _ h => h) (by rfl) hHeld8 ?_
      try simp only [Act.put, List.setIfInBounds_toArray, List.set_cons_zero, List.set_cons_succ]
      refine' takeD (i := 33) (d := some 39) (v := _) rfl rfl (by kernel_rfl) (by kernel_rfl) (by kernel_rfl) (fun _ _ _ h => h) (by rfl) hHeld8 (fun w hSw => ?_) ?_
      rotate_left 1
      · (try dsimp only at hSw)
        go_simp
        try with_reducible rfl
      try simp only [Act.put, List.setIfInBounds_toArray, List.set_cons_zero, List.set_cons_succ]
      refine wpAnyH_done (by kernel_rfl) ?_ _
      have HZ := hideIt (HX.out.1.trans hHeld8.2.2.2.2.2.2.2.1)
      clear hHeld8 HX
      go_wp2_with fail
      go_ret
      exact ⟨false, rfl, ⟨fun h => (by cases h), fun h => (by have h := HM.out.1 h; have h := h.2.1; rw [hw0] at h; cases h)⟩, HZ.out⟩
    | true =>
      refine' takeD (i := 9) (d := some 15) (v := _) rfl rfl (by kernel_rfl) (by kernel_rfl) (by kernel_rfl) (fun _ _ _ h => h) (by rfl) hHeld8 (fun w hSw => ?_) ?_
      rotate_left 1
      · (try dsimp only at hSw)
        go_simp
        try with_reducible rfl
      try simp only [Act.put, List.setIfInBounds_toArray, List.set_cons_zero, List.set_cons_succ]
      refine' takeD (i := 10) (d := some 16) (v := _) rfl rfl (by kernel_rfl) (by kernel_rfl) (by kernel_rfl) (fun _ _ _ h => h) (by rfl) hHeld8 (fun w hSw => ?_) ?_
      rotate_left 1
      · (try dsimp only at hSw)
        go_simp
        try with_reducible rfl
      try simp only [Act.put, List.setIfInBounds_toArray, List.set_cons_zero, List.set_cons_succ]
      refine' takeD (i := 11) (d := some 17) (v := _) rfl rfl (by kernel_rfl) (by kernel_rfl) (by kernel_rfl) (fun _ _ _ h => h) (by rfl) hHeld8 (fun w hSw => ?_) ?_
      rotate_left 1
      · (try dsimp only at hSw)
        go_simp
        try with_reducible rfl
      try simp only [Act.put, List.setIfInBounds_toArray, List.set_cons_zero, List.set_cons_succ]
      refine' takeD (i := 12) (d := some 18) (v := _) rfl rfl (by kernel_rfl) (by kernel_rfl) (by kernel_rfl) (fun _ _ _ h => h) (by rfl) hHeld8 (fun w hSw => ?_) ?_
      rotate_left 1
      · (try dsimp only at hSw)
        go_simp
        try with_reducible rfl
      try simp only [Act.put, List.setIfInBounds_toArray, List.set_cons_zero, List.set_cons_succ]
      refine' takeD (i := 13) (d := some 19) (v := _) rfl rfl (by kernel_rfl) (by kernel_rfl) (by kernel_rfl) (fun _ _ _ h => h) (by rfl) hHeld8 (fun w hSw => ?_) ?_
      rotate_left 1
      · (try dsimp only at hSw)
        go_simp
        try with_reducible rfl
      try simp only [Act.put, List.setIfInBounds_toArray, List.set_cons_zero, List.set_cons_succ]
      refine wpAnyH_ready (rs := [14]) (by kernel_rfl) (by simp) ?_
      refine AllReadyH.cons rfl (fun K hK => ?_) AllReadyH.nil
      go_simp
      refine (word_any _ r).mono ?_
      rintro e w9 ⟨rfl, rfl⟩
      try go_wp2_with fail
      refine hK.out _ _ ?_ (fun hHeld14 => ?_)
      · exact hHeld8
      clear hK K
      try simp only [Act.put, List.setIfInBounds_toArray, List.set_cons_zero, List.set_cons_succ]
      clear hHeld8
      cases hw1 : wd r with
      | false =>
        refine' takeD (i := 15) (d := some 21) (v := _) rfl rfl (by kernel_rfl) (by kernel_rfl) (by kernel_rfl) (fun _ _ _ h => h) (by rfl) hHeld14 (fun w hSw => ?_) ?_
        rotate_left 1
        · (try dsimp only at hSw)
          go_simp
          try with_reducible rfl
        try simp only [Act.put, List.setIfInBounds_toArray, List.set_cons_zero, List.set_cons_succ]
        refine' takeD (i := 16) (d := some 22) (v := _) rfl rfl (by kernel_rfl) (by kernel_rfl) (by kernel_rfl) (fun _ _ _ h => h) (by rfl) hHeld14 (fun w hSw => ?_) ?_
        rotate_left 1
        · (try dsimp only at hSw)
          go_simp
          try with_reducible rfl
        try simp only [Act.put, List.setIfInBounds_toArray, List.set_cons_zero, List.set_cons_succ]
        refine' takeD (i := 17) (d := some 23) (v := _) rfl rfl (by kernel_rfl) (by kernel_rfl) (by kernel_rfl) (fun _ _ _ h => h) (by rfl) hHeld14 (fun w hSw => ?_) ?_
        rotate_left 1
        · (try dsimp only at hSw)
          go_simp
          try with_reducible rfl
        try simp only [Act.put, List.setIfInBounds_toArray, List.set_cons_zero, List.set_cons_succ]
        refine' skipD (i := 18) (d := some 24) rfl rfl (by kernel_rfl) (by kernel_rfl) (by kernel_rfl) (fun _ _ _ h => h) (by rfl) hHeld14 ?_
        try simp only [Act.put, List.setIfInBounds_toArray, List.set_cons_zero, List.set_cons_succ]
        refine' skipD (i := 19) (d := some 25) rfl rfl (by kernel_rfl) (by kernel_rfl) (by kernel_rfl) (fun _ _ _ h => h) (by rfl) hHeld14 ?_
        try simp only [Act.put, List.setIfInBounds_toArray, List.set_cons_zero, List.set_cons_succ]
        refine' skipD (i := 20) (d := some 26) rfl rfl (by kernel_rfl) (by kernel_rfl) (by kernel_rfl) (fun _ _ _ h => h) (by rfl) hHeld14 ?_
        try simp only [Act.put, List.setIfInBounds_toArray, List.set_cons_zero, List.set_cons_succ]
        refine' skipD (i := 21) (d := some 27) rfl rfl (by kernel_rfl) (by kernel_rfl) (by kernel_rfl) (fun _ _ _ h => h) (by rfl) hHeld14 ?_
        try simp only [Act.put, List.setIfInBounds_toArray, List.set_cons_zero, List.set_cons_succ]
        refine' takeD (i := 22) (d := some 28) (v := _) rfl rfl (by kernel_rfl) (by kernel_rfl) (by kernel_rfl) (fun _ _ _ h => h) (by rfl) hHeld14 (fun w hSw => ?_) ?_
        rotate_left 1
        · (try dsimp only at hSw)
          go_simp
          try with_reducible rfl
        try simp only [Act.put, List.setIfInBounds_toArray, List.set_cons_zero, List.set_cons_succ]
        refine' takeD (i := 23) (d := some 29) (v := _) rfl rfl (by kernel_rfl) (by kernel_rfl) (by kernel_rfl) (fun _ _ _ h => h) (by rfl) hHeld14 (fun w hSw => ?_) ?_
        rotate_left 1
        · (try dsimp only at hSw)
          go_simp
          try with_reducible rfl
        try simp only [Act.put, List.setIfInBounds_toArray, List.set_cons_zero, List.set_cons_succ]
        refine' skipD (i := 24) (d := some 30) rfl rfl (by kernel_rfl) (by kernel_rfl) (by kernel_rfl) (fun _ _ _ h => h) (by rfl) hHeld14 ?_
        try simp only [Act.put, List.setIfInBounds_toArray, List.set_cons_zero, List.set_cons_succ]
        refine' skipD (i := 25) (d := some 31) rfl rfl (by kernel_rfl) (by kernel_rfl) (by kernel_rfl) (fun _ _ _ h => h) (by rfl) hHeld14 ?_
        try simp only [Act.put, List.setIfInBounds_toArray, List.set_cons_zero, List.set_cons_succ]
        refine' skipD (i := 26) (d := some 32) rfl rfl (by kernel_rfl) (by kernel_rfl) (by kernel_rfl) (fun _ _ _ h => h) (by rfl) hHeld14 ?_
        try simp only [Act.put, List.setIfInBounds_toArray, List.set_cons_zero, List.set_cons_succ]
        refine' skipD (i := 27) (d := some 33) rfl rfl (by kernel_rfl) (by kernel_rfl) (by kernel_rfl) (fun _ _ _ h => h) (by rfl) hHeld14 ?_
        try simp only [Act.put, List.setIfInBounds_toArray, List.set_cons_zero, List.set_cons_succ]
        refine' skipD (i := 28) (d := some 34) rfl rfl (by kernel_rfl) (by kernel_rfl) (by kernel_rfl) (fun _ _ _ h => h) (by rfl) hHeld14 ?_
        try simp only [Act.put, List.setIfInBounds_toArray, List.set_cons_zero, List.set_cons_succ]
        refine' skipD (i := 29) (d := some 35) rfl rfl (by kernel_rfl) (by kernel_rfl) (by kernel_rfl) (fun _ _ _ h => h) (by rfl) hHeld14 ?_
        try simp only [Act.put, List.setIfInBounds_toArray, List.set_cons_zero, List.set_cons_succ]
        refine' skipD (i := 30) (d := some 36) rfl rfl (by kernel_rfl) (by kernel_rfl) (by kernel_rfl) (fun _ _ _ h => h) (by rfl) hHeld14 ?_
        try simp only [Act.put, List.setIfInBounds_toArray, List.set_cons_zero, List.set_cons_succ]
        refine' skipD (i := 31) (d := some 37) rfl rfl (by kernel_rfl) (by kernel_rfl) (by kernel_rfl) (fun _ _ _ h => h) (by rfl) hHeld14 ?_
        try simp only [Act.put, List.setIfInBounds_toArray, List.set_cons_zero, List.set_cons_succ]
        refine' skipD (i := 32) (d := some 38) rfl rfl (by kernel_rfl) (by kernel_rfl) (by kernel_rfl) (fun _ _ _ h => h) (by rfl) hHeld14 ?_
        try simp only [Act.put, List.setIfInBounds_toArray, List.set_cons_zero, List.set_cons_succ]
        refine' takeD (i := 33) (d := some 39) (v := _) rfl rfl (by kernel_rfl) (by kernel_rfl) (by kernel_rfl) (fun _ _ _ h => h) (by rfl) hHeld14 (fun w hSw => ?_) ?_
        rotate_left 1
        · (try dsimp only at hSw)
          go_simp
          try with_reducible rfl
        try simp only [Act.put, List.setIfInBounds_toArray, List.set_cons_zero, List.set_cons_succ]
        refine wpAnyH_done (by kernel_rfl) ?_ _
        have HZ := hideIt (HX.out.1.trans hHeld14.2.2.2.2.2.2.2.1)
        clear hHeld14 HX
        go_wp2_with fail
        go_ret
        exact ⟨false, rfl, ⟨fun h => (by cases h), fun h => (by have h := HM.out.1 h; have h := h.2.2.1; rw [hw1] at h; cases h)⟩, HZ.out⟩
      | true =>
        refine' takeD (i := 15) (d := some 21) (v := _) rfl rfl (by kernel_rfl) (by kernel_rfl) (by kernel_rfl) (fun _ _ _ h => h) (by rfl) hHeld14 (fun w hSw => ?_) ?_
        rotate_left 1
        · (try dsimp only at hSw)
          go_simp
          try with_reducible rfl
        try simp only [Act.put, List.setIfInBounds_toArray, List.set_cons_zero, List.set_cons_succ]
        refine' takeD (i := 16) (d := some 22) (v := _) rfl rfl (by kernel_rfl) (by kernel_rfl) (by kernel_rfl) (fun _ _ _ h => h) (by rfl) hHeld14 (fun w hSw => ?_) ?_
        rotate_left 1
        · (try dsimp only at hSw)
          go_simp
          try with_reducible rfl
        try simp only [Act.put, List.setIfInBounds_toArray, List.set_cons_zero, List.set_cons_succ]
        refine' takeD (i := 17) (d := some 23) (v := _) rfl rfl (by kernel_rfl) (by kernel_rfl) (by kernel_rfl) (fun _ _ _ h => h) (by rfl) hHeld14 (fun w hSw => ?_) ?_
        rotate_left 1
        · (try dsimp only at hSw)
          go_simp
          try with_reducible rfl
        try simp only [Act.put, List.setIfInBounds_toArray, List.set_cons_zero, List.set_cons_succ]
        refine' takeD (i := 18) (d := some 24) (v := _) rfl rfl (by kernel_rfl) (by kernel_rfl) (by kernel_rfl) (fun _ _ _ h => h) (by rfl) hHeld14 (fun w hSw => ?_) ?_
        rotate_left 1
        · (try dsimp only at hSw)
          go_simp
          try with_reducible rfl
        try simp only [Act.put, List.setIfInBounds_toArray, List.set_cons_zero, List.set_cons_succ]
        refine' takeD (i := 19) (d := some 25) (v := _) rfl rfl (by kernel_rfl) (by kernel_rfl) (by kernel_rfl) (fun _ _ _ h => h) (by rfl) hHeld14 (fun w hSw => ?_) ?_
        rotate_left 1
        · (try dsimp only at hSw)
          go_simp
          try with_reducible rfl
        try simp only [Act.put, List.setIfInBounds_toArray, List.set_cons_zero, List.set_cons_succ]
        refine wpAnyH_ready (rs := [20]) (by kernel_rfl) (by simp) ?_
        refine AllReadyH.cons rfl (fun K hK => ?_) AllReadyH.nil
        go_simp
        refine (word_any _ q).mono ?_
        rintro e w9 ⟨rfl, rfl⟩
        try go_wp2_with fail
        refine hK.out _ _ ?_ (fun hHeld20 => ?_)
        · exact hHeld14
        clear hK K
        try simp only [Act.put, List.setIfInBounds_toArray, List.set_cons_zero, List.set_cons_succ]
        clear hHeld14
        cases hw2 : wd q with
        | false =>
          refine' takeD (i := 21) (d := some 27) (v := _) rfl rfl (by kernel_rfl) (by kernel_rfl) (by kernel_rfl) (fun _ _ _ h => h) (by rfl) hHeld20 (fun w hSw => ?_) ?_
          rotate_left 1
          · (try dsimp only at hSw)
            go_simp
            try with_reducible rfl
          try simp only [Act.put, List.setIfInBounds_toArray, List.set_cons_zero, List.set_cons_succ]
          refine' takeD (i := 22) (d := some 28) (v := _) rfl rfl (by kernel_rfl) (by kernel_rfl) (by kernel_rfl) (fun _ _ _ h => h) (by rfl) hHeld20 (fun w hSw => ?_) ?_
          rotate_left 1
          · (try dsimp only at hSw)
            go_simp
            try with_reducible rfl
          try simp only [Act.put, List.setIfInBounds_toArray, List.set_cons_zero, List.set_cons_succ]
          refine' takeD (i := 23) (d := some 29) (v := _) rfl rfl (by kernel_rfl) (by kernel_rfl) (by kernel_rfl) (fun _ _ _ h => h) (by rfl) hHeld20 (fun w hSw => ?_) ?_
          rotate_left 1
          · (try dsimp only at hSw)
            go_simp
            try with_reducible rfl
          try simp only [Act.put, List.setIfInBounds_toArray, List.set_cons_zero, List.set_cons_succ]
          refine' skipD (i := 24) (d := some 30) rfl rfl (by kernel_rfl) (by kernel_rfl) (by kernel_rfl) (fun _ _ _ h => h) (by rfl) hHeld20 ?_
          try simp only [Act.put, List.setIfInBounds_toArray, List.set_cons_zero, List.set_cons_succ]
          refine' skipD (i := 25) (d := some 31) rfl rfl (by kernel_rfl) (by kernel_rfl) (by kernel_rfl) (fun _ _ _ h => h) (by rfl) hHeld20 ?_
          try simp only [Act.put, List.setIfInBounds_toArray, List.set_cons_zero, List.set_cons_succ]
          refine' skipD (i := 26) (d := some 32) rfl rfl (by kernel_rfl) (by kernel_rfl) (by kernel_rfl) (fun _ _ _ h => h) (by rfl) hHeld20 ?_
          try simp only [Act.put, List.setIfInBounds_toArray, List.set_cons_zero, List.set_cons_succ]
          refine' skipD (i := 27) (d := some 33) rfl rfl (by kernel_rfl) (by kernel_rfl) (by kernel_rfl) (fun _ _ _ h => h) (by rfl) hHeld20 ?_
          try simp only [Act.put, List.setIfInBounds_toArray, List.set_cons_zero, List.set_cons_succ]
          refine' skipD (i := 28) (d := some 34) rfl rfl (by kernel_rfl) (by kernel_rfl) (by kernel_rfl) (fun _ _ _ h => h) (by rfl) hHeld20 ?_
          try simp only [Act.put, List.setIfInBounds_toArray, List.set_cons_zero, List.set_cons_succ]
          refine' skipD (i := 29) (d := some 35) rfl rfl (by kernel_rfl) (by kernel_rfl) (by kernel_rfl) (fun _ _ _ h => h) (by rfl) hHeld20 ?_
          try simp only [Act.put, List.setIfInBounds_toArray, List.set_cons_zero, List.set_cons_succ]
          refine' skipD (i := 30) (d := some 36) rfl rfl (by kernel_rfl) (by kernel_rfl) (by kernel_rfl) (fun _ _ _ h => h) (by rfl) hHeld20 ?_
          try simp only [Act.put, List.setIfInBounds_toArray, List.set_cons_zero, List.set_cons_succ]
          refine' skipD (i := 31) (d := some 37) rfl rfl (by kernel_rfl) (by kernel_rfl) (by kernel_rfl) (fun _ _ _ h => h) (by rfl) hHeld20 ?_
          try simp only [Act.put, List.setIfInBounds_toArray, List.set_cons_zero, List.set_cons_succ]
          refine' skipD (i := 32) (d := some 38) rfl rfl (by kernel_rfl) (by kernel_rfl) (by kernel_rfl) (fun _ _ _ h => h) (by rfl) hHeld20 ?_
          try simp only [Act.put, List.setIfInBounds_toArray, List.set_cons_zero, List.set_cons_succ]
          refine' takeD (i := 33) (d := some 39) (v := _) rfl rfl (by kernel_rfl) (by kernel_rfl) (by kernel_rfl) (fun _ _ _ h => h) (by rfl) hHeld20 (fun w hSw => ?_) ?_
          rotate_left 1
          · (try dsimp only at hSw)
            go_simp
            try with_reducible rfl
          try simp only [Act.put, List.setIfInBounds_toArray, List.set_cons_zero, List.set_cons_succ]
          refine wpAnyH_done (by kernel_rfl) ?_ _
          have HZ := hideIt (HX.out.1.trans hHeld20.2.2.2.2.2.2.2.1)
          clear hHeld20 HX
          go_wp2_with fail
          go_ret
          exact ⟨false, rfl, ⟨fun h => (by cases h), fun h => (by have h := HM.out.1 h; have h := h.2.2.2.1; rw [hw2] at h; cases h)⟩, HZ.out⟩
        | true =>
          refine' takeD (i := 21) (d := some 27) (v := _) rfl rfl (by kernel_rfl) (by kernel_rfl) (by kernel_rfl) (fun _ _ _ h => h) (by rfl) hHeld20 (fun w hSw => ?_) ?_
          rotate_left 1
          · (try dsimp only at hSw)
            go_simp
            try with_reducible rfl
          try simp only [Act.put, List.setIfInBounds_toArray, List.set_cons_zero, List.set_cons_succ]
          refine' takeD (i := 22) (d := some 28) (v := _) rfl rfl (by kernel_rfl) (by kernel_rfl) (by kernel_rfl) (fun _ _ _ h => h) (by rfl) hHeld20 (fun w hSw => ?_) ?_
          rotate_left 1
          · (try dsimp only at hSw)
            go_simp
            try with_reducible rfl
          try simp only [Act.put, List.setIfInBounds_toArray, List.set_cons_zero, List.set_cons_succ]
          refine' takeD (i := 23) (d := some 29) (v := _) rfl rfl (by kernel_rfl) (by kernel_rfl) (by kernel_rfl) (fun _ _ _ h => h) (by rfl) hHeld20 (fun w hSw => ?_) ?_
          rotate_left 1
          · (try dsimp only at hSw)
            go_simp
            try with_reducible rfl
          try simp only [Act.put, List.setIfInBounds_toArray, List.set_cons_zero, List.set_cons_succ]
          refine' takeD (i := 24) (d := some 30) (v := _) rfl rfl (by kernel_rfl) (by kernel_rfl) (by kernel_rfl) (fun _ _ _ h => h) (by rfl) hHeld20 (fun w hSw => ?_) ?_
          rotate_left 1
          · (try dsimp only at hSw)
            go_simp
            try with_reducible rfl
          try simp only [Act.put, List.setIfInBounds_toArray, List.set_cons_zero, List.set_cons_succ]
          refine' takeD (i := 25) (d := some 31) (v := _) rfl rfl (by kernel_rfl) (by kernel_rfl) (by kernel_rfl) (fun _ _ _ h => h) (by rfl) hHeld20 (fun w hSw => ?_) ?_
          rotate_left 1
          · (try dsimp only at hSw)
            go_simp
            try with_reducible rfl
          try simp only [Act.put, List.setIfInBounds_toArray, List.set_cons_zero, List.set_cons_succ]
          by_cases hka : k = 57856
          · have hkb : (k == 57856) = true := by simpa using hka
            by_cases hsl : s = 8
            · have hsb : (((s : Nat) : Int) != 8) = false := by simpa using (show ((s : Nat) : Int) = 8 by omega)
              refine' takeD (i := 26) (d := some 32) (v := _) rfl rfl (by kernel_rfl) (by kernel_rfl) (by kernel_rfl) (fun _ _ _ h => h) (by rfl) hHeld20 (fun w hSw => ?_) ?_
              rotate_left 1
              · (try dsimp only at hSw)
                go_simp
                try with_reducible rfl
              try simp only [Act.put, List.setIfInBounds_toArray, List.set_cons_zero, List.set_cons_succ]
              refine' takeD (i := 27) (d := some 33) (v := _) rfl rfl (by kernel_rfl) (by kernel_rfl) (by kernel_rfl) (fun _ _ _ h => h) (by rfl) hHeld20 (fun w hSw => ?_) ?_
              rotate_left 1
              · (try dsimp only at hSw)
                go_simp
                try with_reducible rfl
              try simp only [Act.put, List.setIfInBounds_toArray, List.set_cons_zero, List.set_cons_succ]
              refine' takeD (i := 28) (d := some 34) (v := _) rfl rfl (by kernel_rfl) (by kernel_rfl) (by kernel_rfl) (fun _ _ _ h => h) (by rfl) hHeld20 (fun w hSw => ?_) ?_
              rotate_left 1
              · (try dsimp only at hSw)
                go_simp
                try with_reducible rfl
              try simp only [Act.put, List.setIfInBounds_toArray, List.set_cons_zero, List.set_cons_succ]
              refine' takeD (i := 29) (d := some 35) (v := _) rfl rfl (by kernel_rfl) (by kernel_rfl) (by kernel_rfl) (fun _ _ _ h => h) (by rfl) hHeld20 (fun w hSw => ?_) ?_
              rotate_left 1
              · (try dsimp only at hSw)
                go_simp
                try with_reducible rfl
              try simp only [Act.put, List.setIfInBounds_toArray, List.set_cons_zero, List.set_cons_succ]
              refine' takeD (i := 30) (d := some 36) (v := _) rfl rfl (by kernel_rfl) (by kernel_rfl) (by kernel_rfl) (fun _ _ _ h => h) (by rfl) hHeld20 (fun w hSw => ?_) ?_
              rotate_left 1
              · (try dsimp only at hSw)
                go_simp
                try with_reducible rfl
              try simp only [Act.put, List.setIfInBounds_toArray, List.set_cons_zero, List.set_cons_succ]
              refine' takeD (i := 31) (d := some 37) (v := _) rfl rfl (by kernel_rfl) (by kernel_rfl) (by kernel_rfl) (fun _ _ _ h => h) (by rfl) hHeld20 (fun w hSw => ?_) ?_
              rotate_left 1
              · (try dsimp only at hSw)
                go_simp
                try with_reducible rfl
              try simp only [Act.put, List.setIfInBounds_toArray, List.set_cons_zero, List.set_cons_succ]
              refine' takeD (i := 32) (d := some 38) (v := _) rfl rfl (by kernel_rfl) (by kernel_rfl) (by kernel_rfl) (fun _ _ _ h => h) (by rfl) hHeld20 (fun w hSw => ?_) ?_
              rotate_left 1
              · (try dsimp only at hSw)
                go_simp
                try with_reducible rfl
              try simp only [Act.put, List.setIfInBounds_toArray, List.set_cons_zero, List.set_cons_succ]
              refine' takeD (i := 33) (d := some 39) (v := _) rfl rfl (by kernel_rfl) (by kernel_rfl) (by kernel_rfl) (fun _ _ _ h => h) (by rfl) hHeld20 (fun w hSw => ?_) ?_
              rotate_left 1
              · (try dsimp only at hSw)
                go_simp
                try with_reducible rfl
              try simp only [Act.put, List.setIfInBounds_toArray, List.set_cons_zero, List.set_cons_succ]
              refine wpAnyH_done (by kernel_rfl) ?_ _
              have HT := hideIt (And.intro hw0 (And.intro hw1 (And.intro hw2 (show ¬ (k = 57856 ∧ s ≠ 8) from fun h => h.2 hsl))))
              have hAf := hHeld20.2.2.2.2.2.2.2.1
              obtain ⟨c0, c1, c2, c3, c4, c5, c6, _, _⟩ := hHeld20
              have HA9 := hideIt (HX.out.1.trans hAf)
              have H9 := hideIt (And.intro (HR.out.1.after hAf) (HR.out.2.after hAf))
              have hlo := HL.out.1
              have hlb := HL.out.2
              clear hAf HX HR HL hw0 hw1 hw2 hka hkb hsl hsb
              go_wp2_with fail
              go_loopw [3] (fun i wr => ∃ j m : Nat, j ≤ o ∧ i = .int .i64 j ∧ wr = w9.drewN m ∧ ∀ i', i' < j → goodO mo i') (fun i _ => o - (intOf i).toNat)
              case atStart => exact ⟨0, 0, Nat.zero_le _, rfl, rfl, fun i' h => absurd h (by omega)⟩
              case round =>
                obtain ⟨j, m, hj, rfl, rfl, hgood⟩ := hrel
                have HG := hideIt hgood
                clear hgood
                by_cases hlt : j < o
                · obtain ⟨b1, o1, h1, u1, l1, rfl, hbl1, x1, d1, d2, d3⟩ := rowO_at H9.out.1 hlt
                  have HX1 := hideIt x1
                  clear x1 hbl1
                  cases hwh : wd h1 with
                  | false =>
                    go_wp2_with (go_at_call 71; refine (word_any _ h1).mono ?_; rintro e w8 ⟨rfl, rfl⟩; rw [hwh])
                    go_ret
                    refine ⟨false, rfl, ⟨fun h => (by cases h), fun h => ?_⟩, HA9.out.trans (After.rfl.draws m)⟩
                    have h := ((HM.out.1 h).2.2.2.2.2.1 j hlt _ HX1.out).1
                    rw [hwh] at h
                    cases h
                  | true =>
                    cases hwu : wd u1 with
                    | false =>
                      go_wp2_with (go_at_call 71; first | (refine (word_any _ h1).mono ?_; rintro e w8 ⟨rfl, rfl⟩; rw [hwh]) | (refine (word_any _ u1).mono ?_; rintro e w8 ⟨rfl, rfl⟩; rw [hwu]))
                      go_ret
                      refine ⟨false, rfl, ⟨fun h => (by cases h), fun h => ?_⟩, HA9.out.trans (After.rfl.draws m)⟩
                      have h := ((HM.out.1 h).2.2.2.2.2.1 j hlt _ HX1.out).2.1
                      rw [hwu] at h
                      cases h
                    | true =>
                      go_wp2_with (go_at_call 71; first | (refine (word_any _ h1).mono ?_; rintro e w8 ⟨rfl, rfl⟩; rw [hwh]) | (refine (word_any _ u1).mono ?_; rintro e w8 ⟨rfl, rfl⟩; rw [hwu]))
                      go_loopw [4] (fun i wr => ∃ k' m' : Nat, k' ≤ j ∧ i = .int .i64 k' ∧ wr = w9.drewN m' ∧ ∀ i' o', i' < k' → mo[i']? = some o' → o'.h ≠ h1) (fun i _ => j - (intOf i).toNat)
                      case atStart => exact ⟨0, m, Nat.zero_le _, rfl, rfl, fun i' o' h => absurd h (by omega)⟩
                      case round =>
                        obtain ⟨k', m', hk', rfl, rfl, hun⟩ := hrel
                        have HU := hideIt hun
                        clear hun
                        by_cases hlt' : k' < j
                        · obtain ⟨b2, o2, h2, u2, l2, hbo, _, x2, e1, e2, e3⟩ := rowO_at H9.out.1 (show k' < o by omega)
                          cases hbo
                          have HX2 := hideIt x2
                          clear x2
                          by_cases hh : h2 = h1
                          · have hhb : (h2 == h1) = true := by simpa using hh
                            go_wp2_with fail
                            go_region
                            go_wp2_with fail
                            go_ret
                            refine ⟨false, rfl, ⟨fun h => (by cases h), fun h => ?_⟩, HA9.out.trans (After.rfl.draws (m' + 1))⟩
                            exact absurd hh (((HM.out.1 h).2.2.2.2.2.1 j hlt _ HX1.out).2.2 k' _ hlt' HX2.out)
                          · have hhb : (h2 == h1) = false := by simpa using hh
                            go_wp2_with fail
                            go_region
                            go_wp2_with fail
                            go_roundw
                            case rel => exact ⟨k' + 1, m' + 1, by omega, by go_num, rfl, fun i' o' hi' ho' => by
                              by_cases e : i' = k'
                              · subst e
                                have := HX2.out
                                rw [this] at ho'
                                cases ho'
                                exact hh
                              · exact HU.out i' o' (by omega) ho'⟩
                            case measure => simp [intOf]; omega
                        · go_wp2_with fail
                          go_roundw
                          case rel => exact ⟨j + 1, m', by omega, by go_num, rfl, fun i' hi' => by
                            by_cases e : i' = j
                            · subst e
                              intro o' ho'
                              have := HX1.out
                              rw [this] at ho'
                              cases ho'
                              exact ⟨hwh, hwu, fun k9 o9 hk9 ho9 => HU.out k9 o9 (by omega) ho9⟩
                            · exact HG.out i' (by omega)⟩
                          case measure => simp [intOf]; omega
                · have HGO := hideIt (show ∀ i, i < o → goodO mo i from fun i hi => HG.out i (by omega))
                  clear HG
                  go_wp2_with fail
                  go_loopw [5] (fun i wr => ∃ j m : Nat, j ≤ b ∧ i = .int .i64 j ∧ wr = w9.drewN m ∧ ∀ i', i' < j → goodB mb i') (fun i _ => b - (intOf i).toNat)
                  case atStart => exact ⟨0, m, Nat.zero_le _, rfl, rfl, fun i' h => absurd h (by omega)⟩
                  case round =>
                    obtain ⟨j2, m2, hj2, rfl, rfl, hgood⟩ := hrel
                    have HG := hideIt hgood
                    clear hgood
                    by_cases hlt2 : j2 < b
                    · obtain ⟨b1, o1, h1, l1, u1, rfl, hbl1, x1, d1, d2, d3⟩ := rowB_at H9.out.2 hlt2
                      have HX1 := hideIt x1
                      clear x1 hbl1
                      cases hwh : wd h1 with
                      | false =>
                        go_wp2_with (go_at_call 71; refine (word_any _ h1).mono ?_; rintro e w8 ⟨rfl, rfl⟩; rw [hwh])
                        go_ret
                        refine ⟨false, rfl, ⟨fun h => (by cases h), fun h => ?_⟩, HA9.out.trans (After.rfl.draws m2)⟩
                        have h := ((HM.out.1 h).2.2.2.2.2.2 j2 hlt2 _ HX1.out).1
                        rw [hwh] at h
                        cases h
                      | true =>
                        cases l1 with
                        | true =>
                          go_wp2_with (go_at_call 71; refine (word_any _ h1).mono ?_; rintro e w8 ⟨rfl, rfl⟩; rw [hwh])
                          go_roundw
                          case rel => exact ⟨j2 + 1, m2, by omega, by go_num, rfl, fun i' hi' => by
                            by_cases e : i' = j2
                            · subst e
                              intro o' ho'
                              have := HX1.out
                              rw [this] at ho'
                              cases ho'
                              exact ⟨hwh, fun h => (by cases h)⟩
                            · exact HG.out i' (by omega)⟩
                          case measure => simp [intOf]; omega
                        | false =>
                          by_cases hu : 65535 < u1
                          · go_wp2_with (go_at_call 71; refine (word_any _ h1).mono ?_; rintro e w8 ⟨rfl, rfl⟩; rw [hwh])
                            go_ret
                            refine ⟨false, rfl, ⟨fun h => (by cases h), fun h => ?_⟩, HA9.out.trans (After.rfl.draws m2)⟩
                            have h := ((HM.out.1 h).2.2.2.2.2.2 j2 hlt2 _ HX1.out).2 rfl
                            dsimp only at h
                            omega
                          · go_wp2_with (go_at_call 71; refine (word_any _ h1).mono ?_; rintro e w8 ⟨rfl, rfl⟩; rw [hwh])
                            go_roundw
                            case rel => exact ⟨j2 + 1, m2, by omega, by go_num, rfl, fun i' hi' => by
                              by_cases e : i' = j2
                              · subst e
                                intro o' ho'
                                have := HX1.out
                                rw [this] at ho'
                                cases ho'
                                exact ⟨hwh, fun _ => by dsimp only; omega⟩
                              · exact HG.out i' (by omega)⟩
                            case measure => simp [intOf]; omega
                    · go_wp2_with fail
                      go_ret
                      obtain ⟨t0, t1, t2, t3⟩ := HT.out
                      exact ⟨true, rfl, ⟨fun _ => HM.out.2 ⟨by first | rfl | trivial, t0, t1, t2, t3, HGO.out, fun i hi => HG.out i (by omega)⟩, fun _ => rfl⟩, HA9.out.trans (After.rfl.draws m2)⟩
            · have hsb : (((s : Nat) : Int) != 8) = true := by simpa using (show ¬ ((s : Nat) : Int) = 8 by omega)
              refine' takeD (i := 26) (d := some 32) (v := _) rfl rfl (by kernel_rfl) (by kernel_rfl) (by kernel_rfl) (fun _ _ _ h => h) (by rfl) hHeld20 (fun w hSw => ?_) ?_
              rotate_left 1
              · (try dsimp only at hSw)
                go_simp
                try with_reducible rfl
              try simp only [Act.put, List.setIfInBounds_toArray, List.set_cons_zero, List.set_cons_succ]
              refine' takeD (i := 27) (d := some 33) (v := _) rfl rfl (by kernel_rfl) (by kernel_rfl) (by kernel_rfl) (fun _ _ _ h => h) (by rfl) hHeld20 (fun w hSw => ?_) ?_
              rotate_left 1
              · (try dsimp only at hSw)
                go_simp
                try with_reducible rfl
              try simp only [Act.put, List.setIfInBounds_toArray, List.set_cons_zero, List.set_cons_succ]
              refine' takeD (i := 28) (d := some 34) (v := _) rfl rfl (by kernel_rfl) (by kernel_rfl) (by kernel_rfl) (fun _ _ _ h => h) (by rfl) hHeld20 (fun w hSw => ?_) ?_
              rotate_left 1
              · (try dsimp only at hSw)
                go_simp
                try with_reducible rfl
              try simp only [Act.put, List.setIfInBounds_toArray, List.set_cons_zero, List.set_cons_succ]
              refine' takeD (i := 29) (d := some 35) (v := _) rfl rfl (by kernel_rfl) (by kernel_rfl) (by kernel_rfl) (fun _ _ _ h => h) (by rfl) hHeld20 (fun w hSw => ?_) ?_
              rotate_left 1
              · (try dsimp only at hSw)
                go_simp
                try with_reducible rfl
              try simp only [Act.put, List.setIfInBounds_toArray, List.set_cons_zero, List.set_cons_succ]
              refine' takeD (i := 30) (d := some 36) (v := _) rfl rfl (by kernel_rfl) (by kernel_rfl) (by kernel_rfl) (fun _ _ _ h => h) (by rfl) hHeld20 (fun w hSw => ?_) ?_
              rotate_left 1
              · (try dsimp only at hSw)
                go_simp
                try with_reducible rfl
              try simp only [Act.put, List.setIfInBounds_toArray, List.set_cons_zero, List.set_cons_succ]
              refine' takeD (i := 31) (d := some 37) (v := _) rfl rfl (by kernel_rfl) (by kernel_rfl) (by kernel_rfl) (fun _ _ _ h => h) (by rfl) hHeld20 (fun w hSw => ?_) ?_
              rotate_left 1
              · (try dsimp only at hSw)
                go_simp
                try with_reducible rfl
              try simp only [Act.put, List.setIfInBounds_toArray, List.set_cons_zero, List.set_cons_succ]
              refine' takeD (i := 32) (d := some 38) (v := _) rfl rfl (by kernel_rfl) (by kernel_rfl) (by kernel_rfl) (fun _ _ _ h => h) (by rfl) hHeld20 (fun w hSw => ?_) ?_
              rotate_left 1
              · (try dsimp only at hSw)
                go_simp
                try with_reducible rfl
              try simp only [Act.put, List.setIfInBounds_toArray, List.set_cons_zero, List.set_cons_succ]
              refine' takeD (i := 33) (d := some 39) (v := _) rfl rfl (by kernel_rfl) (by kernel_rfl) (by kernel_rfl) (fun _ _ _ h => h) (by rfl) hHeld20 (fun w hSw => ?_) ?_
              rotate_left 1
              · (try dsimp only at hSw)
                go_simp
                try with_reducible rfl
              try simp only [Act.put, List.setIfInBounds_toArray, List.set_cons_zero, List.set_cons_succ]
              refine wpAnyH_done (by kernel_rfl) ?_ _
              have HZ := hideIt (HX.out.1.trans hHeld20.2.2.2.2.2.2.2.1)
              clear hHeld20 HX
              go_wp2_with fail
              go_ret
              exact ⟨false, rfl, ⟨fun h => (by cases h), fun h => (by have h := HM.out.1 h; exact (h.2.2.2.2.1 ⟨hka, hsl⟩).elim)⟩, HZ.out⟩
          · have hkb : (k == 57856) = false := by simpa using hka
            refine' takeD (i := 26) (d := some 32) (v := _) rfl rfl (by kernel_rfl) (by kernel_rfl) (by kernel_rfl) (fun _ _ _ h => h) (by rfl) hHeld20 (fun w hSw => ?_) ?_
            rotate_left 1
            · (try dsimp only at hSw)
              go_simp
              try with_reducible rfl
            try simp only [Act.put, List.setIfInBounds_toArray, List.set_cons_zero, List.set_cons_succ]
            refine' takeD (i := 27) (d := some 33) (v := _) rfl rfl (by kernel_rfl) (by kernel_rfl) (by kernel_rfl) (fun _ _ _ h => h) (by rfl) hHeld20 (fun w hSw => ?_) ?_
            rotate_left 1
            · (try dsimp only at hSw)
              go_simp
              try with_reducible rfl
            try simp only [Act.put, List.setIfInBounds_toArray, List.set_cons_zero, List.set_cons_succ]
            refine' skipD (i := 28) (d := some 34) rfl rfl (by kernel_rfl) (by kernel_rfl) (by kernel_rfl) (fun _ _ _ h => h) (by rfl) hHeld20 ?_
            try simp only [Act.put, List.setIfInBounds_toArray, List.set_cons_zero, List.set_cons_succ]
            refine' skipD (i := 29) (d := some 35) rfl rfl (by kernel_rfl) (by kernel_rfl) (by kernel_rfl) (fun _ _ _ h => h) (by rfl) hHeld20 ?_
            try simp only [Act.put, List.setIfInBounds_toArray, List.set_cons_zero, List.set_cons_succ]
            refine' skipD (i := 30) (d := some 36) rfl rfl (by kernel_rfl) (by kernel_rfl) (by kernel_rfl) (fun _ _ _ h => h) (by rfl) hHeld20 ?_
            try simp only [Act.put, List.setIfInBounds_toArray, List.set_cons_zero, List.set_cons_succ]
            refine' skipD (i := 31) (d := some 37) rfl rfl (by kernel_rfl) (by kernel_rfl) (by kernel_rfl) (fun _ _ _ h => h) (by rfl) hHeld20 ?_
            try simp only [Act.put, List.setIfInBounds_toArray, List.set_cons_zero, List.set_cons_succ]
            refine' takeD (i := 32) (d := some 38) (v := _) rfl rfl (by kernel_rfl) (by kernel_rfl) (by kernel_rfl) (fun _ _ _ h => h) (by rfl) hHeld20 (fun w hSw => ?_) ?_
            rotate_left 1
            · (try dsimp only at hSw)
              go_simp
              try with_reducible rfl
            try simp only [Act.put, List.setIfInBounds_toArray, List.set_cons_zero, List.set_cons_succ]
            refine' takeD (i := 33) (d := some 39) (v := _) rfl rfl (by kernel_rfl) (by kernel_rfl) (by kernel_rfl) (fun _ _ _ h => h) (by rfl) hHeld20 (fun w hSw => ?_) ?_
            rotate_left 1
            · (try dsimp only at hSw)
              go_simp
              try with_reducible rfl
            try simp only [Act.put, List.setIfInBounds_toArray, List.set_cons_zero, List.set_cons_succ]
            refine wpAnyH_done (by kernel_rfl) ?_ _
            have HT := hideIt (And.intro hw0 (And.intro hw1 (And.intro hw2 (show ¬ (k = 57856 ∧ s ≠ 8) from fun h => hka h.1))))
            have hAf := hHeld20.2.2.2.2.2.2.2.1
            obtain ⟨c0, c1, c2, c3, c4, c5, c6, _, _⟩ := hHeld20
            have HA9 := hideIt (HX.out.1.trans hAf)
            have H9 := hideIt (And.intro (HR.out.1.after hAf) (HR.out.2.after hAf))
            have hlo := HL.out.1
            have hlb := HL.out.2
            clear hAf HX HR HL hw0 hw1 hw2 hka hkb
            go_wp2_with fail
            go_loopw [3] (fun i wr => ∃ j m : Nat, j ≤ o ∧ i = .int .i64 j ∧ wr = w9.drewN m ∧ ∀ i', i' < j → goodO mo i') (fun i _ => o - (intOf i).toNat)
            case atStart => exact ⟨0, 0, Nat.zero_le _, rfl, rfl, fun i' h => absurd h (by omega)⟩
            case round =>
              obtain ⟨j, m, hj, rfl, rfl, hgood⟩ := hrel
              have HG := hideIt hgood
              clear hgood
              by_cases hlt : j < o
              · obtain ⟨b1, o1, h1, u1, l1, rfl, hbl1, x1, d1, d2, d3⟩ := rowO_at H9.out.1 hlt
                have HX1 := hideIt x1
                clear x1 hbl1
                cases hwh : wd h1 with
                | false =>
                  go_wp2_with (go_at_call 71; refine (word_any _ h1).mono ?_; rintro e w8 ⟨rfl, rfl⟩; rw [hwh])
                  go_ret
                  refine ⟨false, rfl, ⟨fun h => (by cases h), fun h => ?_⟩, HA9.out.trans (After.rfl.draws m)⟩
                  have h := ((HM.out.1 h).2.2.2.2.2.1 j hlt _ HX1.out).1
                  rw [hwh] at h
                  cases h
                | true =>
                  cases hwu : wd u1 with
                  | false =>
                    go_wp2_with (go_at_call 71; first | (refine (word_any _ h1).mono ?_; rintro e w8 ⟨rfl, rfl⟩; rw [hwh]) | (refine (word_any _ u1).mono ?_; rintro e w8 ⟨rfl, rfl⟩; rw [hwu]))
                    go_ret
                    refine ⟨false, rfl, ⟨fun h => (by cases h), fun h => ?_⟩, HA9.out.trans (After.rfl.draws m)⟩
                    have h := ((HM.out.1 h).2.2.2.2.2.1 j hlt _ HX1.out).2.1
                    rw [hwu] at h
                    cases h
                  | true =>
                    go_wp2_with (go_at_call 71; first | (refine (word_any _ h1).mono ?_; rintro e w8 ⟨rfl, rfl⟩; rw [hwh]) | (refine (word_any _ u1).mono ?_; rintro e w8 ⟨rfl, rfl⟩; rw [hwu]))
                    go_loopw [4] (fun i wr => ∃ k' m' : Nat, k' ≤ j ∧ i = .int .i64 k' ∧ wr = w9.drewN m' ∧ ∀ i' o', i' < k' → mo[i']? = some o' → o'.h ≠ h1) (fun i _ => j - (intOf i).toNat)
                    case atStart => exact ⟨0, m, Nat.zero_le _, rfl, rfl, fun i' o' h => absurd h (by omega)⟩
                    case round =>
                      obtain ⟨k', m', hk', rfl, rfl, hun⟩ := hrel
                      have HU := hideIt hun
                      clear hun
                      by_cases hlt' : k' < j
                      · obtain ⟨b2, o2, h2, u2, l2, hbo, _, x2, e1, e2, e3⟩ := rowO_at H9.out.1 (show k' < o by omega)
                        cases hbo
                        have HX2 := hideIt x2
                        clear x2
                        by_cases hh : h2 = h1
                        · have hhb : (h2 == h1) = true := by simpa using hh
                          go_wp2_with fail
                          go_region
                          go_wp2_with fail
                          go_ret
                          refine ⟨false, rfl, ⟨fun h => (by cases h), fun h => ?_⟩, HA9.out.trans (After.rfl.draws (m' + 1))⟩
                          exact absurd hh (((HM.out.1 h).2.2.2.2.2.1 j hlt _ HX1.out).2.2 k' _ hlt' HX2.out)
                        · have hhb : (h2 == h1) = false := by simpa using hh
                          go_wp2_with fail
                          go_region
                          go_wp2_with fail
                          go_roundw
                          case rel => exact ⟨k' + 1, m' + 1, by omega, by go_num, rfl, fun i' o' hi' ho' => by
                            by_cases e : i' = k'
                            · subst e
                              have := HX2.out
                              rw [this] at ho'
                              cases ho'
                              exact hh
                            · exact HU.out i' o' (by omega) ho'⟩
                          case measure => simp [intOf]; omega
                      · go_wp2_with fail
                        go_roundw
                        case rel => exact ⟨j + 1, m', by omega, by go_num, rfl, fun i' hi' => by
                          by_cases e : i' = j
                          · subst e
                            intro o' ho'
                            have := HX1.out
                            rw [this] at ho'
                            cases ho'
                            exact ⟨hwh, hwu, fun k9 o9 hk9 ho9 => HU.out k9 o9 (by omega) ho9⟩
                          · exact HG.out i' (by omega)⟩
                        case measure => simp [intOf]; omega
              · have HGO := hideIt (show ∀ i, i < o → goodO mo i from fun i hi => HG.out i (by omega))
                clear HG
                go_wp2_with fail
                go_loopw [5] (fun i wr => ∃ j m : Nat, j ≤ b ∧ i = .int .i64 j ∧ wr = w9.drewN m ∧ ∀ i', i' < j → goodB mb i') (fun i _ => b - (intOf i).toNat)
                case atStart => exact ⟨0, m, Nat.zero_le _, rfl, rfl, fun i' h => absurd h (by omega)⟩
                case round =>
                  obtain ⟨j2, m2, hj2, rfl, rfl, hgood⟩ := hrel
                  have HG := hideIt hgood
                  clear hgood
                  by_cases hlt2 : j2 < b
                  · obtain ⟨b1, o1, h1, l1, u1, rfl, hbl1, x1, d1, d2, d3⟩ := rowB_at H9.out.2 hlt2
                    have HX1 := hideIt x1
                    clear x1 hbl1
                    cases hwh : wd h1 with
                    | false =>
                      go_wp2_with (go_at_call 71; refine (word_any _ h1).mono ?_; rintro e w8 ⟨rfl, rfl⟩; rw [hwh])
                      go_ret
                      refine ⟨false, rfl, ⟨fun h => (by cases h), fun h => ?_⟩, HA9.out.trans (After.rfl.draws m2)⟩
                      have h := ((HM.out.1 h).2.2.2.2.2.2 j2 hlt2 _ HX1.out).1
                      rw [hwh] at h
                      cases h
                    | true =>
                      cases l1 with
                      | true =>
                        go_wp2_with (go_at_call 71; refine (word_any _ h1).mono ?_; rintro e w8 ⟨rfl, rfl⟩; rw [hwh])
                        go_roundw
                        case rel => exact ⟨j2 + 1, m2, by omega, by go_num, rfl, fun i' hi' => by
                          by_cases e : i' = j2
                          · subst e
                            intro o' ho'
                            have := HX1.out
                            rw [this] at ho'
                            cases ho'
                            exact ⟨hwh, fun h => (by cases h)⟩
                          · exact HG.out i' (by omega)⟩
                        case measure => simp [intOf]; omega
                      | false =>
                        by_cases hu : 65535 < u1
                        · go_wp2_with (go_at_call 71; refine (word_any _ h1).mono ?_; rintro e w8 ⟨rfl, rfl⟩; rw [hwh])
                          go_ret
                          refine ⟨false, rfl, ⟨fun h => (by cases h), fun h => ?_⟩, HA9.out.trans (After.rfl.draws m2)⟩
                          have h := ((HM.out.1 h).2.2.2.2.2.2 j2 hlt2 _ HX1.out).2 rfl
                          dsimp only at h
                          omega
                        · go_wp2_with (go_at_call 71; refine (word_any _ h1).mono ?_; rintro e w8 ⟨rfl, rfl⟩; rw [hwh])
                          go_roundw
                          case rel => exact ⟨j2 + 1, m2, by omega, by go_num, rfl, fun i' hi' => by
                            by_cases e : i' = j2
                            · subst e
                              intro o' ho'
                              have := HX1.out
                              rw [this] at ho'
                              cases ho'
                              exact ⟨hwh, fun _ => by dsimp only; omega⟩
                            · exact HG.out i' (by omega)⟩
                          case measure => simp [intOf]; omega
                  · go_wp2_with fail
                    go_ret
                    obtain ⟨t0, t1, t2, t3⟩ := HT.out
                    exact ⟨true, rfl, ⟨fun _ => HM.out.2 ⟨by first | rfl | trivial, t0, t1, t2, t3, HGO.out, fun i hi => HG.out i (by omega)⟩, fun _ => rfl⟩, HA9.out.trans (After.rfl.draws m2)⟩
end Go.Proofs.YthcfdoafncbliaaGreat
