/-
  Laid together: RefPack, RgC.
-/
import Derived.Test.YthcfdoafncbliaaGreatB22
import Derived.Test.YthcfdoafncbliaaGreatB24
import Derived.Test.YthcfdoafncbliaaGreatB23
/-
  The document's Pack.
-/
namespace Go.Proofs.YthcfdoafncbliaaGreat
open Go.RowKit
set_option maxRecDepth 8000
/-- What is answered where bytes are asked. -/
def Byts (w w' : World) (e : Ending) (zs : List Int) : Prop := Bs zs ∧ zs.length ≤ 600 ∧ ∃ a c, e = .returned (.tuple #[.slice a zs.length c, .int .i64 0]) ∧ w'.ownsRow w.heap.size 5 1 (.slice a zs.length c) zs.length (u8s zs)
set_option maxHeartbeats 4000000 in
theorem rpack_any (w : World) (P : Nat → Prop) (M : Msg) (sa : Option Addr) (sc : Nat) (oa : Option Addr) (oc : Nat) (ba : Option Addr) (bc : Nat) (x : MsgX w P M sa sc oa oc ba bc) :
    Calls Tryz.prog 27 #[M.val sa sc oa oc ba bc] w fun e w' => After w w' ∧ Ends (packAll M) (fun _ zs => Byts w w' e zs) (fun c => e = .returned (.tuple #[.slice none 0 0, .int .i64 c])) := by
  obtain ⟨w0, hw0⟩ : ∃ w0, w.alloc (.cells (M.cells sa sc oa oc ba bc) 31) = w0 := ⟨_, rfl⟩
  have hA : After w w0 := by rw [← hw0]; exact After.rfl.alloc _
  have b0 : w0.heap[w.heap.size]? = some (.cells (M.cells sa sc oa oc ba bc) 31 (0, 0)) := by rw [← hw0]; exact new1 _ _
  have HK := hideIt (fun W => known_any W M.kind)
  have HE1 : Hid (alone M.kind = false → inData M.kind = false → packAll M = .error 2) := fun h1 h2 => if_pos ⟨h1, h2⟩
  have HE2 : Hid (alone M.kind = true ∨ inData M.kind = true → 16 < M.objs.length ∨ 64 < M.obs.length → packAll M = .error 5) := fun h1 h2 => by
    unfold packAll
    rw [if_neg (by rintro ⟨a, b⟩; rcases h1 with h | h; rw [h] at a; cases a; rw [h] at b; cases b), if_pos h2]
  have HE3 : Hid (alone M.kind = true ∨ inData M.kind = true → M.objs.length ≤ 16 → M.obs.length ≤ 64 → (MayM M → packAll M = .ok ((), docBytes M)) ∧ (¬ MayM M → packAll M = .error 2)) := fun h1 h2 h3 => pack_doc h1 h2 h3 x.bb
  have HM := hideIt (show alone M.kind = true ∨ inData M.kind = true → M.objs.length ≤ 16 → M.obs.length ≤ 64 → ∀ W, After w0 W → Calls Tryz.prog 50 #[M.val sa sc oa oc ba bc] W fun e w' => ∃ f, e = .returned (.bool f) ∧ (f = true ↔ MayM M) ∧ After W w' from fun h1 h2 h3 W hW => may_any W P M sa sc oa oc ba bc (x.after (hA.trans hW)) h1 (by omega) (by omega))
  have HF := hideIt (show alone M.kind = true ∨ inData M.kind = true → M.objs.length ≤ 16 → M.obs.length ≤ 64 → ∀ W, After w0 W → Calls Tryz.prog 52 #[M.val sa sc oa oc ba bc] W fun e w' => Flds W w' e (fldB M) from fun h1 h2 h3 W hW => fields_all W P M sa sc oa oc ba bc (x.after (hA.trans hW)) h1 h2 h3)
  have HDB := hideIt (show ∀ zs, packAll M = .ok ((), zs) → zs.length ≤ 600 from fun zs h => pack_short h)
  have HDO := hideIt (show docBytes M = if inData M.kind = true then boxD 59136 (boxD M.kind (fldB M)) else boxD M.kind (fldB M) from rfl)
  unfold Msg.cells at b0 hw0
  obtain ⟨_, ⟨g0, g1, g2, g3, g4, g5, g6⟩, _⟩ := seven_at b0
  have HX := hideIt (And.intro hA (And.intro b0 (show w.heap.size < w0.heap.size by rw [← hw0, World.size_alloc]; omega)))
  have HW := hideIt hw0
  clear x hA b0 hw0
  generalize hPA : packAll M = PA at HE1 HE2 HE3 HDB ⊢
  generalize hDB : docBytes M = DB at HE3 HDO
  generalize hFB : fldB M = FB at HF HDO
  generalize hMM : MayM M = MM at HE3 HM
  obtain ⟨d1, h1⟩ : ∃ d, alone M.kind = d := ⟨_, rfl⟩
  obtain ⟨d2, h2⟩ : ∃ d, inData M.kind = d := ⟨_, rfl⟩
  rw [h1] at HK HE1 HE2 HE3 HM HF
  rw [h2] at HK HE1 HE2 HE3 HM HF HDO
  have HNN := hideIt (show ¬ (d1 = true ∧ d2 = true) from fun h => by rw [← h1, ← h2] at h; have := (alone_not h.1).1; rw [h.2] at this; cases this)
  clear h1 h2 hPA hDB hFB hMM
  unfold Msg.val at HM HF
  unfold Msg.val
  obtain ⟨k, ms, c, r, q, mo, mb⟩ := M
  dsimp only at HK HE1 HE2 HE3 HM HF HX HW HDO g0 g1 g2 g3 g4 g5 g6 ⊢
  generalize ms.length = s at HM HF HX HW g1 ⊢
  generalize mo.length = o at HE2 HE3 HM HF HX HW g5 ⊢
  generalize mb.length = b at HE2 HE3 HM HF HX HW g6 ⊢
  cases d1 with
  | false =>
    cases d2 with
    | false =>
      have e := hideIt (HE1.out rfl rfl)
      clear HE1 HE2 HE3 HM HF HDB HDO
      go_enter Tryz.func27, Tryz.ntmps27
      go_wp2_with fail
      rw [HW.out]
      refine (HK.out _).mono ?_
      rintro e w9 ⟨rfl, hw9⟩
      have hw8 := hw9.symm
      subst hw8
      simp only [Bool.or_self]
      go_wp2_with fail
      go_ret2
      exact ⟨HX.out.1, Ends.bad e.out rfl⟩
    | true =>
      have e2 := hideIt (HE2.out (.inr rfl))
      have e3 := hideIt (HE3.out (.inr rfl))
      have hm := hideIt (HM.out (.inr rfl))
      have hf := hideIt (HF.out (.inr rfl))
      clear HE1 HE2 HE3 HM HF
      go_enter Tryz.func27, Tryz.ntmps27
      go_wp2_with fail
      rw [HW.out]
      refine (HK.out _).mono ?_
      rintro e w9 ⟨rfl, hw9⟩
      have hw8 := hw9.symm
      subst hw8
      simp only [Bool.or_true]
      by_cases hl1 : (16 : Int) < (o : Int)
      · have e := hideIt (e2.out (by omega))
        clear e2 e3 hm hf HDB HDO
        go_wp2_with fail
        go_ret2
        exact ⟨HX.out.1, Ends.bad e.out rfl⟩
      by_cases hl2 : (64 : Int) < (b : Int)
      · have e := hideIt (e2.out (by omega))
        clear e2 e3 hm hf HDB HDO
        go_wp2_with fail
        go_ret2
        exact ⟨HX.out.1, Ends.bad e.out rfl⟩
      have e4 := hideIt (e3.out (by omega) (by omega))
      have hm2 := hideIt (hm.out (by omega) (by omega))
      have hf2 := hideIt (hf.out (by omega) (by omega))
      clear e2 e3 hm hf
      go_wp2_with fail
      refine (hm2.out _ After.rfl).mono ?_
      clear hm2
      rintro e w3 ⟨f, rfl, hff, h3⟩
      cases f with
      | false =>
        have e := hideIt (e4.out.2 (fun h => by have := hff.2 h; cases this))
        have HZ := hideIt (HX.out.1.trans h3)
        clear e4 hf2 HDB HDO hff h3
        go_wp2_with fail
        go_ret2
        exact ⟨HZ.out, Ends.bad e.out rfl⟩
      | true =>
        have e := hideIt (e4.out.1 (hff.1 rfl))
        have hdl := hideIt (HDB.out _ e.out)
        have hb3 := keep2 HX.out.2.1 h3
        clear g0 g1 g2 g3 g4 g5 g6
        obtain ⟨_, ⟨g0, g1, g2, g3, g4, g5, g6⟩, _⟩ := seven_at hb3
        have HA3 := hideIt h3
        clear e4 HDB hff h3 hb3
        go_wp2_with fail
        refine wp_region_held_drew (S := (fun W => W.cell? ⟨w.heap.size, 0, none⟩ = some (.int .i64 k) ∧ W.cell? ⟨w.heap.size, 1, none⟩ = some (.slice sa s sc) ∧ W.cell? ⟨w.heap.size, 2, none⟩ = some (.int .i64 c) ∧ W.cell? ⟨w.heap.size, 3, none⟩ = some (.int .i64 r) ∧ W.cell? ⟨w.heap.size, 4, none⟩ = some (.int .i64 q) ∧ W.cell? ⟨w.heap.size, 5, none⟩ = some (.slice oa o oc) ∧ W.cell? ⟨w.heap.size, 6, none⟩ = some (.slice ba b bc) ∧ After w0 W ∧ w.heap.size < W.heap.size)) rfl ⟨g0, g1, g2, g3, g4, g5, g6, HA3.out.draws 1, by rw [World.size_drew]; exact Nat.lt_of_lt_of_le HX.out.2.2 HA3.out.size⟩ (fun hHeld => ?_)
        generalize w3.drew = w4 at hHeld ⊢
        clear g0 g1 g2 g3 g4 g5 g6 HA3
        refine' takeD (i := 0) (d := some 28) (v := _) rfl rfl (by kernel_rfl) (by kernel_rfl) (by kernel_rfl) (fun _ _ _ h => h) (by rfl) hHeld (fun w hSw => ?_) ?_
        rotate_left 1
        · (try dsimp only at hSw)
          go_simp
          try with_reducible rfl
        try simp only [Act.put, List.setIfInBounds_toArray, List.set_cons_zero, List.set_cons_succ]
        refine' takeD (i := 1) (d := some 29) (v := _) rfl rfl (by kernel_rfl) (by kernel_rfl) (by kernel_rfl) (fun _ _ _ h => h) (by rfl) hHeld (fun w hSw => ?_) ?_
        rotate_left 1
        · (try dsimp only at hSw)
          go_simp
          try with_reducible rfl
        try simp only [Act.put, List.setIfInBounds_toArray, List.set_cons_zero, List.set_cons_succ]
        refine' takeD (i := 2) (d := some 30) (v := _) rfl rfl (by kernel_rfl) (by kernel_rfl) (by kernel_rfl) (fun _ _ _ h => h) (by rfl) hHeld (fun w hSw => ?_) ?_
        rotate_left 1
        · (try dsimp only at hSw)
          go_simp
          try with_reducible rfl
        try simp only [Act.put, List.setIfInBounds_toArray, List.set_cons_zero, List.set_cons_succ]
        refine wpAnyH_ready (rs := [3]) (by kernel_rfl) (by simp) ?_
        refine AllReadyH.cons rfl (fun K hK => ?_) AllReadyH.nil
        go_simp
        refine (hf2.out _ hHeld.2.2.2.2.2.2.2.1).mono ?_
        clear hf2
        rintro e w5 ⟨v5, rfl, o5, bs5, h5⟩
        obtain ⟨a5, c5, rfl, r5, n5, _, _⟩ := own_row o5 bs5
        have H5 := hideIt (And.intro r5 n5)
        clear o5 bs5 r5 n5
        generalize hfl : FB.length = nf at H5 ⊢
        have HFL := hideIt hfl
        clear hfl
        try go_wp2_with fail
        refine hK.out _ _ ?_ (fun hHeld3 => ?_)
        · exact ⟨by rw [h5.cell hHeld.2.2.2.2.2.2.2.2]; exact hHeld.1, by rw [h5.cell hHeld.2.2.2.2.2.2.2.2]; exact hHeld.2.1, by rw [h5.cell hHeld.2.2.2.2.2.2.2.2]; exact hHeld.2.2.1, by rw [h5.cell hHeld.2.2.2.2.2.2.2.2]; exact hHeld.2.2.2.1, by rw [h5.cell hHeld.2.2.2.2.2.2.2.2]; exact hHeld.2.2.2.2.1, by rw [h5.cell hHeld.2.2.2.2.2.2.2.2]; exact hHeld.2.2.2.2.2.1, by rw [h5.cell hHeld.2.2.2.2.2.2.2.2]; exact hHeld.2.2.2.2.2.2.1, hHeld.2.2.2.2.2.2.2.1.trans h5, Nat.lt_of_lt_of_le hHeld.2.2.2.2.2.2.2.2 h5.size⟩
        clear hK K
        try simp only [Act.put, List.setIfInBounds_toArray, List.set_cons_zero, List.set_cons_succ]
        have hnf : nf ≤ 600 := by
          have h9 := hdl.out
          rw [HDO.out] at h9
          rw [← HFL.out]
          simp only [if_true, boxD, List.length_append] at h9
          omega
        refine wpAnyH_ready (rs := [4]) (by kernel_rfl) (by simp) ?_
        refine AllReadyH.cons rfl (fun K hK => ?_) AllReadyH.nil
        go_simp
        refine (box_any _ k a5 nf c5 FB H5.out.1 H5.out.2 (by omega)).mono ?_
        rintro e w6 ⟨v6, rfl, o6, bs6, h6⟩
        rw [← HFL.out] at o6 bs6
        have o6' : w6.ownsRow w5.heap.size 5 1 v6 (boxD k FB).length (u8s (boxD k FB)) := o6
        have bs6' : Bs (boxD k FB) := bs6
        obtain ⟨a6, c6, rfl, r6, n6, _, _⟩ := own_row o6' bs6'
        have H6 := hideIt (And.intro r6 (And.intro n6 (And.intro (own_base o6' (fun k' hk => Nat.le_trans (Nat.le_trans HX.out.1.size hHeld3.2.2.2.2.2.2.2.1.size) (o6'.lt k' hk).1)) bs6')))
        clear o6 bs6 r6 n6 o6' bs6' H5
        generalize hgl : (boxD k FB).length = ng at H6 ⊢
        have HGL := hideIt hgl
        clear hgl
        try go_wp2_with fail
        refine hK.out _ _ ?_ (fun hHeld4 => ?_)
        · exact ⟨by rw [h6.cell hHeld3.2.2.2.2.2.2.2.2]; exact hHeld3.1, by rw [h6.cell hHeld3.2.2.2.2.2.2.2.2]; exact hHeld3.2.1, by rw [h6.cell hHeld3.2.2.2.2.2.2.2.2]; exact hHeld3.2.2.1, by rw [h6.cell hHeld3.2.2.2.2.2.2.2.2]; exact hHeld3.2.2.2.1, by rw [h6.cell hHeld3.2.2.2.2.2.2.2.2]; exact hHeld3.2.2.2.2.1, by rw [h6.cell hHeld3.2.2.2.2.2.2.2.2]; exact hHeld3.2.2.2.2.2.1, by rw [h6.cell hHeld3.2.2.2.2.2.2.2.2]; exact hHeld3.2.2.2.2.2.2.1, hHeld3.2.2.2.2.2.2.2.1.trans h6, Nat.lt_of_lt_of_le hHeld3.2.2.2.2.2.2.2.2 h6.size⟩
        clear hK K
        try simp only [Act.put, List.setIfInBounds_toArray, List.set_cons_zero, List.set_cons_succ]
        refine wpAnyH_ready (rs := [5]) (by kernel_rfl) (by simp) ?_
        refine AllReadyH.cons rfl (fun K hK => ?_) AllReadyH.nil
        go_simp
        try go_wp2_with fail
        refine hK.out _ _ ?_ (fun hHeld5 => ?_)
        · exact hHeld4
        clear hK K
        try simp only [Act.put, List.setIfInBounds_toArray, List.set_cons_zero, List.set_cons_succ]
        refine wpAnyH_done (by kernel_rfl) ?_ _
        have HA6 := hideIt (HX.out.1.trans hHeld5.2.2.2.2.2.2.2.1)
        have HB6 := hideIt (HX.out.1.size)
        clear hHeld hHeld3 hHeld4 hHeld5 h5 h6
        have hng : ng ≤ 600 := by
          have h9 := hdl.out
          rw [HDO.out] at h9
          rw [← HGL.out]
          simp only [if_true] at h9
          unfold boxD at h9 ⊢
          simp only [List.length_append] at h9 ⊢
          omega
        go_wp2_with fail
        refine (box_any _ 59136 a6 ng c6 (boxD k FB) H6.out.1 H6.out.2.1 (by omega)).mono ?_
        rintro e w7 ⟨v7, rfl, o7, bs7, h7⟩
        rw [← HGL.out] at o7 bs7
        have hDB : DB = boxD 59136 (boxD k FB) := HDO.out.trans (if_pos (by first | rfl | trivial))
        have o7' : w7.ownsRow w6.heap.size 5 1 v7 DB.length (u8s DB) := by rw [hDB]; exact o7
        have bs7' : Bs DB := by rw [hDB]; exact bs7
        obtain ⟨a7, c7, rfl⟩ := own_slice o7'
        have H7 := hideIt (And.intro (own_base o7' (fun k' hk => Nat.le_trans HA6.out.size (o7'.lt k' hk).1)) (And.intro bs7' (HA6.out.trans h7)))
        clear o7 bs7 o7' bs7' h7 hDB
        generalize hml : DB.length = nm at H7 ⊢
        have HML := hideIt hml
        clear hml
        go_wp2_with fail
        go_ret2
        obtain ⟨o7, bs7, a7'⟩ := H7.out
        refine ⟨a7', Ends.ok e.out ?_⟩
        rw [← HML.out] at o7 ⊢
        exact ⟨bs7, hdl.out, a7, c7, rfl, o7⟩
  | true =>
    cases d2 with
    | false =>
      have e2 := hideIt (HE2.out (.inl rfl))
      have e3 := hideIt (HE3.out (.inl rfl))
      have hm := hideIt (HM.out (.inl rfl))
      have hf := hideIt (HF.out (.inl rfl))
      clear HE1 HE2 HE3 HM HF
      go_enter Tryz.func27, Tryz.ntmps27
      go_wp2_with fail
      rw [HW.out]
      refine (HK.out _).mono ?_
      rintro e w9 ⟨rfl, hw9⟩
      have hw8 := hw9.symm
      subst hw8
      simp only [Bool.or_false]
      by_cases hl1 : (16 : Int) < (o : Int)
      · have e := hideIt (e2.out (by omega))
        clear e2 e3 hm hf HDB HDO
        go_wp2_with fail
        go_ret2
        exact ⟨HX.out.1, Ends.bad e.out rfl⟩
      by_cases hl2 : (64 : Int) < (b : Int)
      · have e := hideIt (e2.out (by omega))
        clear e2 e3 hm hf HDB HDO
        go_wp2_with fail
        go_ret2
        exact ⟨HX.out.1, Ends.bad e.out rfl⟩
      have e4 := hideIt (e3.out (by omega) (by omega))
      have hm2 := hideIt (hm.out (by omega) (by omega))
      have hf2 := hideIt (hf.out (by omega) (by omega))
      clear e2 e3 hm hf
      go_wp2_with fail
      refine (hm2.out _ After.rfl).mono ?_
      clear hm2
      rintro e w3 ⟨f, rfl, hff, h3⟩
      cases f with
      | false =>
        have e := hideIt (e4.out.2 (fun h => by have := hff.2 h; cases this))
        have HZ := hideIt (HX.out.1.trans h3)
        clear e4 hf2 HDB HDO hff h3
        go_wp2_with fail
        go_ret2
        exact ⟨HZ.out, Ends.bad e.out rfl⟩
      | true =>
        have e := hideIt (e4.out.1 (hff.1 rfl))
        have hdl := hideIt (HDB.out _ e.out)
        have hb3 := keep2 HX.out.2.1 h3
        clear g0 g1 g2 g3 g4 g5 g6
        obtain ⟨_, ⟨g0, g1, g2, g3, g4, g5, g6⟩, _⟩ := seven_at hb3
        have HA3 := hideIt h3
        clear e4 HDB hff h3 hb3
        go_wp2_with fail
        refine wp_region_held_drew (S := (fun W => W.cell? ⟨w.heap.size, 0, none⟩ = some (.int .i64 k) ∧ W.cell? ⟨w.heap.size, 1, none⟩ = some (.slice sa s sc) ∧ W.cell? ⟨w.heap.size, 2, none⟩ = some (.int .i64 c) ∧ W.cell? ⟨w.heap.size, 3, none⟩ = some (.int .i64 r) ∧ W.cell? ⟨w.heap.size, 4, none⟩ = some (.int .i64 q) ∧ W.cell? ⟨w.heap.size, 5, none⟩ = some (.slice oa o oc) ∧ W.cell? ⟨w.heap.size, 6, none⟩ = some (.slice ba b bc) ∧ After w0 W ∧ w.heap.size < W.heap.size)) rfl ⟨g0, g1, g2, g3, g4, g5, g6, HA3.out.draws 1, by rw [World.size_drew]; exact Nat.lt_of_lt_of_le HX.out.2.2 HA3.out.size⟩ (fun hHeld => ?_)
        generalize w3.drew = w4 at hHeld ⊢
        clear g0 g1 g2 g3 g4 g5 g6 HA3
        refine' takeD (i := 0) (d := some 28) (v := _) rfl rfl (by kernel_rfl) (by kernel_rfl) (by kernel_rfl) (fun _ _ _ h => h) (by rfl) hHeld (fun w hSw => ?_) ?_
        rotate_left 1
        · (try dsimp only at hSw)
          go_simp
          try with_reducible rfl
        try simp only [Act.put, List.setIfInBounds_toArray, List.set_cons_zero, List.set_cons_succ]
        refine' takeD (i := 1) (d := some 29) (v := _) rfl rfl (by kernel_rfl) (by kernel_rfl) (by kernel_rfl) (fun _ _ _ h => h) (by rfl) hHeld (fun w hSw => ?_) ?_
        rotate_left 1
        · (try dsimp only at hSw)
          go_simp
          try with_reducible rfl
        try simp only [Act.put, List.setIfInBounds_toArray, List.set_cons_zero, List.set_cons_succ]
        refine' takeD (i := 2) (d := some 30) (v := _) rfl rfl (by kernel_rfl) (by kernel_rfl) (by kernel_rfl) (fun _ _ _ h => h) (by rfl) hHeld (fun w hSw => ?_) ?_
        rotate_left 1
        · (try dsimp only at hSw)
          go_simp
          try with_reducible rfl
        try simp only [Act.put, List.setIfInBounds_toArray, List.set_cons_zero, List.set_cons_succ]
        refine wpAnyH_ready (rs := [3]) (by kernel_rfl) (by simp) ?_
        refine AllReadyH.cons rfl (fun K hK => ?_) AllReadyH.nil
        go_simp
        refine (hf2.out _ hHeld.2.2.2.2.2.2.2.1).mono ?_
        clear hf2
        rintro e w5 ⟨v5, rfl, o5, bs5, h5⟩
        obtain ⟨a5, c5, rfl, r5, n5, _, _⟩ := own_row o5 bs5
        have H5 := hideIt (And.intro r5 n5)
        clear o5 bs5 r5 n5
        generalize hfl : FB.length = nf at H5 ⊢
        have HFL := hideIt hfl
        clear hfl
        try go_wp2_with fail
        refine hK.out _ _ ?_ (fun hHeld3 => ?_)
        · exact ⟨by rw [h5.cell hHeld.2.2.2.2.2.2.2.2]; exact hHeld.1, by rw [h5.cell hHeld.2.2.2.2.2.2.2.2]; exact hHeld.2.1, by rw [h5.cell hHeld.2.2.2.2.2.2.2.2]; exact hHeld.2.2.1, by rw [h5.cell hHeld.2.2.2.2.2.2.2.2]; exact hHeld.2.2.2.1, by rw [h5.cell hHeld.2.2.2.2.2.2.2.2]; exact hHeld.2.2.2.2.1, by rw [h5.cell hHeld.2.2.2.2.2.2.2.2]; exact hHeld.2.2.2.2.2.1, by rw [h5.cell hHeld.2.2.2.2.2.2.2.2]; exact hHeld.2.2.2.2.2.2.1, hHeld.2.2.2.2.2.2.2.1.trans h5, Nat.lt_of_lt_of_le hHeld.2.2.2.2.2.2.2.2 h5.size⟩
        clear hK K
        try simp only [Act.put, List.setIfInBounds_toArray, List.set_cons_zero, List.set_cons_succ]
        have hnf : nf ≤ 600 := by
          have h9 := hdl.out
          rw [HDO.out] at h9
          rw [← HFL.out]
          simp only [Bool.false_eq_true, if_false, boxD, List.length_append] at h9
          omega
        refine wpAnyH_ready (rs := [4]) (by kernel_rfl) (by simp) ?_
        refine AllReadyH.cons rfl (fun K hK => ?_) AllReadyH.nil
        go_simp
        refine (box_any _ k a5 nf c5 FB H5.out.1 H5.out.2 (by omega)).mono ?_
        rintro e w6 ⟨v6, rfl, o6, bs6, h6⟩
        rw [← HFL.out] at o6 bs6
        have o6' : w6.ownsRow w5.heap.size 5 1 v6 (boxD k FB).length (u8s (boxD k FB)) := o6
        have bs6' : Bs (boxD k FB) := bs6
        obtain ⟨a6, c6, rfl, r6, n6, _, _⟩ := own_row o6' bs6'
        have H6 := hideIt (And.intro r6 (And.intro n6 (And.intro (own_base o6' (fun k' hk => Nat.le_trans (Nat.le_trans HX.out.1.size hHeld3.2.2.2.2.2.2.2.1.size) (o6'.lt k' hk).1)) bs6')))
        clear o6 bs6 r6 n6 o6' bs6' H5
        generalize hgl : (boxD k FB).length = ng at H6 ⊢
        have HGL := hideIt hgl
        clear hgl
        try go_wp2_with fail
        refine hK.out _ _ ?_ (fun hHeld4 => ?_)
        · exact ⟨by rw [h6.cell hHeld3.2.2.2.2.2.2.2.2]; exact hHeld3.1, by rw [h6.cell hHeld3.2.2.2.2.2.2.2.2]; exact hHeld3.2.1, by rw [h6.cell hHeld3.2.2.2.2.2.2.2.2]; exact hHeld3.2.2.1, by rw [h6.cell hHeld3.2.2.2.2.2.2.2.2]; exact hHeld3.2.2.2.1, by rw [h6.cell hHeld3.2.2.2.2.2.2.2.2]; exact hHeld3.2.2.2.2.1, by rw [h6.cell hHeld3.2.2.2.2.2.2.2.2]; exact hHeld3.2.2.2.2.2.1, by rw [h6.cell hHeld3.2.2.2.2.2.2.2.2]; exact hHeld3.2.2.2.2.2.2.1, hHeld3.2.2.2.2.2.2.2.1.trans h6, Nat.lt_of_lt_of_le hHeld3.2.2.2.2.2.2.2.2 h6.size⟩
        clear hK K
        try simp only [Act.put, List.setIfInBounds_toArray, List.set_cons_zero, List.set_cons_succ]
        refine wpAnyH_ready (rs := [5]) (by kernel_rfl) (by simp) ?_
        refine AllReadyH.cons rfl (fun K hK => ?_) AllReadyH.nil
        go_simp
        try go_wp2_with fail
        refine hK.out _ _ ?_ (fun hHeld5 => ?_)
        · exact hHeld4
        clear hK K
        try simp only [Act.put, List.setIfInBounds_toArray, List.set_cons_zero, List.set_cons_succ]
        refine wpAnyH_done (by kernel_rfl) ?_ _
        have HA6 := hideIt (HX.out.1.trans hHeld5.2.2.2.2.2.2.2.1)
        have HB6 := hideIt (HX.out.1.size)
        clear hHeld hHeld3 hHeld4 hHeld5 h5 h6
        go_wp2_with fail
        go_ret2
        have hDB : DB = boxD k FB := HDO.out.trans (if_neg (by first | decide | exact fun h => h))
        obtain ⟨r6, n6, o6, bs6⟩ := H6.out
        refine ⟨HA6.out, Ends.ok e.out ?_⟩
        have hl := hdl.out
        rw [hDB] at hl ⊢
        rw [← HGL.out] at o6 ⊢
        exact ⟨bs6, hl, a6, c6, rfl, o6⟩
    | true =>
      exact absurd ⟨rfl, rfl⟩ HNN.out
end Go.Proofs.YthcfdoafncbliaaGreat
/-
  The document's Handle.
-/
namespace Go.Proofs.YthcfdoafncbliaaGreat
open Go.RowKit Go.Maps
set_option maxRecDepth 8000
/-- All that is behind the document's step. -/
def RSteps (w w' : World) (P : Nat → Prop) (g : Nat) (e : Ending) (o : Out) : Prop := Says w w' e o ∧ RgAt w' (fun k => P k ∨ w.heap.size ≤ k) g o.st ∧ But (One g) w w'
theorem r_after {w w' : World} {P : Nat → Prop} {g : Nat} {st : Mg} {e : Ending} {o : Out} (x : RgAt w P g st) (h : Says w w' e o) (a : After w w') (hst : o.st = st) : RSteps w w' P g e o :=
  ⟨h, by rw [hst]; exact (x.after a).mono (fun k hk => .inl hk), a.but⟩
theorem r_left {w w1 w2 : World} {P : Nat → Prop} {g : Nat} {e : Ending} {o : Out} (hP : P g) (hst : o.st = Mg.new) (h : Says w w2 e o) (a1 : After w w1) (hg : w2.heap[g]? = some (.cells rgC 41 (0, 0))) (b : But (One g) w1 w2) : RSteps w w2 P g e o :=
  ⟨h, by rw [hst]; exact rg_new hg (.inl hP), a1.but.trans b⟩
set_option maxHeartbeats 2000000 in
theorem rgHandle_bad {w : World} {P T : Nat → Prop} {g : Nat} {st : Mg} (x : RgAt w P g st) (M : Msg) (sa : Option Addr) (sc : Nat) (oa : Option Addr) (oc : Nat) (ba : Option Addr) (bc : Nat) (y : MsgX w T M sa sc oa oc ba bc) (hok : okB M = false) :
    Calls Tryz.prog 9 #[Ptr g, M.val sa sc oa oc ba bc] w fun e w' => RSteps w w' P g e (handle st M) := by
  obtain ⟨w0, hw0⟩ : ∃ w0, w.alloc (.cells #[.int .i64 M.kind, .slice sa M.sys.length sc, .int .i64 M.config, .int .i64 M.result, .int .i64 M.reason, .slice oa M.objs.length oc, .slice ba M.obs.length bc] 31) = w0 := ⟨_, rfl⟩
  have hA : After w w0 := by rw [← hw0]; exact After.rfl.alloc _
  have hB : w0.heap[w.heap.size]? = some (.cells #[.int .i64 M.kind, .slice sa M.sys.length sc, .int .i64 M.config, .int .i64 M.result, .int .i64 M.reason, .slice oa M.objs.length oc, .slice ba M.obs.length bc] 31 (0, 0)) := by rw [← hw0]; exact new1 _ _
  obtain ⟨_, ⟨k0, k1, k2, k3, k4, k5, k6⟩, _⟩ := seven_at hB
  have HPK := hideIt (rpack_any w0 T M sa sc oa oc ba bc (y.after hA))
  rw [show M.val sa sc oa oc ba bc = .agg #[.int .i64 M.kind, .slice sa M.sys.length sc, .int .i64 M.config, .int .i64 M.result, .int .i64 M.reason, .slice oa M.objs.length oc, .slice ba M.obs.length bc] from rfl] at HPK ⊢
  obtain ⟨c9, hp9, hc9⟩ : ∃ c9, packAll M = .error c9 ∧ (c9 != 0) = true := by
    have hh := hok
    unfold okB at hh
    cases hp : packAll M with
    | ok x => rw [hp] at hh; cases hh
    | error c =>
      refine ⟨c, rfl, ?_⟩
      unfold packAll at hp
      split at hp
      · cases hp; rfl
      · split at hp
        · cases hp; rfl
        · rw [packF_err hp]; rfl
  rw [hp9] at HPK
  have HE : Hid (handle st M = ⟨st, none, [], 2⟩) := by unfold handle; rw [hok]; rfl
  have HX := hideIt (And.intro x hA)
  clear x hA hB y hok hp9
  generalize handle st M = HD at *
  generalize M.kind = mk at *
  generalize M.sys.length = n1 at *
  generalize M.config = mc at *
  generalize M.result = mr at *
  generalize M.reason = mq at *
  generalize M.objs.length = n2 at *
  generalize M.obs.length = n3 at *
  go_enter Tryz.func9, Tryz.ntmps9
  go_wp2_with fail
  refine HPK.out.mono ?_
  rintro e w1 ⟨a1, rfl⟩
  have HA1 := hideIt a1
  clear a1 HPK k0 k1 k2 k3 k4 k5 k6
  go_wp2_with fail
  go_ret3
  rw [HE.out]
  exact r_after HX.out.1 ⟨_, _, rfl, rfl, SmAt.nil _ _⟩ (HX.out.2.trans HA1.out) rfl
end Go.Proofs.YthcfdoafncbliaaGreat
