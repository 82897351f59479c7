/-
  The document's Flush.
-/
import Derived.Test.YtalffdiohjcajaaDbS
namespace Go.Proofs.Ytalffdiohjcajaa.Iv
open Go.RowKit
set_option maxRecDepth 8000
theorem rvFlush_no {S : Nat → Prop} {w : World} {p : Pl} {x : Dv} (h : RvX w S p x) (hd : x.dead = true) : Calls Try.prog 26 #[Ptr p.e] w fun e w' => e = .returned (.int .i64 220) ∧ w' = w := by
  have c3 := h.c.2.2.2.1
  rw [hd] at c3
  clear h hd
  go_enter Try.func26, Try.ntmps26
  go_wp2
  go_ret
  exact ⟨rfl, rfl⟩
theorem rvFlush_die {S : Nat → Prop} {w : World} {p : Pl} {x : Dv} (h : RvX w S p x) (hd : x.dead = false) (hl : x.left = 0) : Calls Try.prog 26 #[Ptr p.e] w fun e w' => e = .returned (.int .i64 220) ∧ RvX w' S p x.go ∧ But (One p.e) w w' := by
  have c3 := h.c.2.2.2.1
  rw [hd] at c3
  have HG := rvGoes h
  rw [show decide (x.left = 0) = true from decide_eq_true hl] at HG
  have HG := hideIt HG
  clear h hd hl
  go_enter Try.func26, Try.ntmps26
  go_wp2_with (go_at_call 42; refine HG.out.mono ?_; rintro e w1 ⟨rfl, x1, b1⟩; have X1 := hideIt (And.intro x1 b1); clear x1 b1)
  go_ret
  exact ⟨rfl, X1.out.1, X1.out.2⟩
def keepF (x : Dv) (j k : Nat) : List Int := if k < j then x.last k else x.kp k
def touchF (x : Dv) (j k : Nat) : Bool := if k < j then false else (x.wr k).isSome
set_option maxHeartbeats 1000000 in
theorem rvFlush_yes {S : Nat → Prop} {w : World} {p : Pl} {x : Dv} (h : RvX w S p x) (hd : x.dead = false) (hl : ¬ x.left = 0) : Calls Try.prog 26 #[Ptr p.e] w fun e w' => e = .returned (.int .i64 0) ∧ RvX w' S p x.go.flushed ∧ But p.In w w' := by
  have c3 := h.c.2.2.2.1
  rw [hd] at c3
  have HG := rvGoes h
  rw [show decide (x.left = 0) = false from decide_eq_false hl] at HG
  have HGO := hideIt (go_ok h.ok)
  clear h hd hl
  generalize x.go = z at *
  have HG := hideIt HG
  have hn1 : (z.n : Int) ≤ 256 := by have := HGO.out.n1; omega
  go_enter Try.func26, Try.ntmps26
  go_wp2_with (go_at_call 42; refine HG.out.mono ?_; rintro e w1 ⟨rfl, x1, b1⟩; have X1 := hideIt (And.intro (mid x1) b1); clear x1 b1)
  go_loopw [3] (fun iv wr => ∃ j : Nat, j ≤ z.n ∧ iv = .int .i64 j ∧ RvM wr S p z.n (keepF z j) z.last (touchF z j) z.dead z.left ∧ But p.In w1 wr) (fun iv _ => z.n - (intOf iv).toNat)
  case atStart => exact ⟨0, Nat.zero_le _, rfl, X1.out.1, But.rfl⟩
  case round =>
    obtain ⟨j, hj, rfl, hm, hb⟩ := hrel
    have c1 := hm.c.2.1
    have HM := hideIt (And.intro hm hb)
    by_cases hjn : j < z.n
    · have i1 : (j : Int) < (z.n : Int) := by omega
      have i0 : (0 : Int) ≤ (j : Int) := by omega
      obtain ⟨bo, co, cc, hrow, hnS⟩ := hm.rl.cell hjn
      have HW := hideIt (And.intro cc (And.intro hrow hnS))
      have hpl : p.l < wr.heap.size := hm.rl.lt
      clear hm hb cc hrow hnS
      go_upto_region 6 with fail
      refine region_inv (by kernel_rfl) (Tab.J (⟨15, fun k' => [21, 22, 23, 24, 25, 26, 27, 28, 29, 30, 31, 32, 33, 34, 900].getD k' 0, fun k' => ([some (Ptr p.e), some (Ptr p.e), some (Ptr p.e), some (.slice (some ⟨p.k, 0, none⟩) z.n p.ck), some (.int .i64 j), some (Ptr p.e), some (Ptr p.e), some (.pointer (some ⟨p.e, 1, none⟩)), some (.slice (some ⟨p.l, 0, none⟩) z.n p.cl), some (.int .i64 j), some (.pointer (some ⟨p.l, j, none⟩)), some (.slice (some ⟨bo, 0, none⟩) 64 co), none, some (.pointer (some ⟨p.k, j, none⟩)), none] : List (Option Value)).getD k' none, Ca1 12 14 (After wr) (Cpy wr (z.last j)) (fun V => RvM V S p z.n (fun k => if k = j then z.last j else keepF z j k) z.last (touchF z j) z.dead z.left ∧ But (One p.k) wr V ∧ V.cell? ⟨p.l, j, none⟩ = some (.slice (some ⟨bo, 0, none⟩) 64 co))⟩ : Tab) _) ⟨rfl, rfl, fun _ _ => rfl, (fun _ _ _ _ h => by cases h), Ca1.start (But.drew But.rfl)⟩ ?_ ?_
      · exact ⟨inv_move (.inl rfl) rfl rfl rfl rfl rfl rfl rfl rfl (Ca1.keep (neB rfl) (neB rfl) (neB rfl)) rfl,
          inv_nil rfl rfl rfl rfl rfl rfl rfl rfl rfl (Ca1.keep (neB rfl) (neB rfl) (neB rfl)) rfl,
          inv_field rfl rfl rfl rfl rfl rfl rfl rfl rfl (Ca1.keep (neB rfl) (neB rfl) (neB rfl)) rfl (fun w => fieldRv w _),
          inv_load rfl rfl rfl rfl rfl rfl rfl rfl rfl (Ca1.keep (neB rfl) (neB rfl) (neB rfl)) rfl (fun L u V h => loadSs (h.any (fun a => (HM.out.1.after a).c.1) (fun v a => (HM.out.1.after a.1).c.1) (fun a => a.1.c.1))),
          inv_move (.inl rfl) rfl rfl rfl rfl rfl rfl rfl rfl (Ca1.keep (neB rfl) (neB rfl) (neB rfl)) rfl,
          inv_move (.inl rfl) rfl rfl rfl rfl rfl rfl rfl rfl (Ca1.keep (neB rfl) (neB rfl) (neB rfl)) rfl,
          inv_nil rfl rfl rfl rfl rfl rfl rfl rfl rfl (Ca1.keep (neB rfl) (neB rfl) (neB rfl)) rfl,
          inv_field rfl rfl rfl rfl rfl rfl rfl rfl rfl (Ca1.keep (neB rfl) (neB rfl) (neB rfl)) rfl (fun w => fieldRv1 w _),
          inv_load rfl rfl rfl rfl rfl rfl rfl rfl rfl (Ca1.keep (neB rfl) (neB rfl) (neB rfl)) rfl (fun L u V h => loadSs (h.any (fun a => (HM.out.1.after a).c.2.1) (fun v a => (HM.out.1.after a.1).c.2.1) (fun a => a.1.c.2.1))),
          inv_move (.inl rfl) rfl rfl rfl rfl rfl rfl rfl rfl (Ca1.keep (neB rfl) (neB rfl) (neB rfl)) rfl,
          inv_index rfl rfl rfl rfl rfl rfl rfl rfl rfl (Ca1.keep (neB rfl) (neB rfl) (neB rfl)) rfl rfl (fun V => indexSs V _ hjn),
          inv_load rfl rfl rfl rfl rfl rfl rfl rfl rfl (Ca1.keep (neB rfl) (neB rfl) (neB rfl)) rfl (fun L u V h => loadS1 (h.any (fun a => (a.cell hpl _).trans HW.out.1) (fun v a => (a.1.cell hpl _).trans HW.out.1) (fun a => a.2.2))),
          inv_call rfl rfl rfl rfl rfl rfl rfl rfl (enterC Try.func40 (by kernel_rfl) (by kernel_rfl)) (fun a V L hv hd hl h => by
            rw [show (#[Operand.tmp 32] : Array Operand).map a.eval = #[a.eval (.tmp 32)] from by simp, hv (.tmp 32) _ rfl]
            have n0 := h.p0 hl
            refine (copy64 V _ co _ (HW.out.2.1.after n0)).mono ?_
            rintro e V' ⟨b', c', rfl, h1, _, h3, _, h5⟩
            exact ⟨_, rfl, (fun v7 h7 => by cases h7), Ca1.call (neB rfl) h hl ⟨n0.trans h5, b', c', rfl, h1, Nat.le_trans n0.size h3⟩⟩),
          inv_index rfl rfl rfl rfl rfl rfl rfl rfl rfl (Ca1.keep (neB rfl) (neB rfl) (neB rfl)) rfl rfl (fun V => indexSs V _ hjn),
          inv_end rfl rfl rfl rfl rfl rfl (fun L a V hv hd hl h => by
            obtain ⟨a5, b', c', eb, h1, h3⟩ := h.p1 (hd 12 rfl) hl
            rw [hv (.tmp 34) _ rfl]
            have hm5 := HM.out.1.after a5
            obtain ⟨b3, c3, cc3, _, _⟩ := hm5.rk.cell hjn
            have hnb : ¬ S b' := fun t => by have := HM.out.1.bd b' t; omega
            have hr := storeS1 cc3 (hm5.rk.soft j) b' c' eb
            have hp := hm5.putK (c := c') hjn h1 hnb
            rw [← eb] at hp
            exact ⟨_, hr, Ca1.store (neB rfl) h (hd 12 rfl) ⟨hp, (a5.but).trans (but_one _ _ _ _), ((but_one _ _ _ _).cell (Nat.lt_of_lt_of_le hpl a5.size) (fun e => hm5.kl e.symm) _).trans ((a5.cell hpl _).trans HW.out.1)⟩⟩),
          trivial⟩
      · intro a7 w7 L7 hL7 J7
        have e7 := J7.fin hL7 rfl
        have W7 := J7.other
        have h7 := W7.p4 (hL7 14 (Nat.le_of_ble_eq_true rfl))
        clear J7 W7
        rw [e7]
        clear e7
        generalize hv7 : Tab.u _ a7 = U7 at *
        simp only [Tab.puts, List.getD_cons_succ, List.getD_cons_zero, Option.getD_some, Option.getD_none, List.setIfInBounds_toArray, List.set_cons_succ, List.set_cons_zero, List.set_nil]
        clear hv7 hL7
        have c2 := h7.1.c.2.2.1
        have ct := h7.1.rt.cell hjn
        have ft := h7.1.rt.soft j
        have hp := h7.1.putT hjn false
        have HP := hideIt (And.intro hp h7.2.1)
        clear h7 hp
        go_wp2
        refine ⟨⟨j + 1, by omega, by simp, ?_, ?_⟩, by simp [intOf]; omega⟩
        · have e1 : (fun k => if k = j then z.last j else keepF z j k) = keepF z (j + 1) := by
            funext k
            unfold keepF
            by_cases e : k = j
            · subst e
              rw [if_pos rfl, if_pos (by omega)]
            · rw [if_neg e]
              by_cases e2 : k < j
              · rw [if_pos e2, if_pos (by omega)]
              · rw [if_neg e2, if_neg (by omega)]
          have e2 : (fun k => if k = j then false else touchF z j k) = touchF z (j + 1) := by
            funext k
            unfold touchF
            by_cases e : k = j
            · subst e
              rw [if_pos rfl, if_pos (by omega)]
            · rw [if_neg e]
              by_cases e2 : k < j
              · rw [if_pos e2, if_pos (by omega)]
              · rw [if_neg e2, if_neg (by omega)]
          rw [← e1, ← e2]
          exact HP.out.1
        · exact ((HM.out.2.trans (HP.out.2.mono (fun _ _ e => .inr (.inl e)))).trans ((but_one _ _ _ _).mono (fun _ _ e => .inr (.inr (.inr e)))))
    · obtain rfl : j = z.n := by omega
      clear hm hb
      go_wp2
      go_ret
      refine ⟨rfl, HM.out.1.done (x := z.flushed) (flushed_ok HGO.out) (fun k hk => ?_) (fun k hk => rfl) (fun k hk => ?_), (X1.out.2.mono (fun _ _ e => .inl e)).trans HM.out.2⟩
      · unfold keepF
        rw [if_pos (show k < z.n from hk)]
        rfl
      · unfold touchF
        rw [if_pos (show k < z.n from hk)]
        rfl
end Go.Proofs.Ytalffdiohjcajaa.Iv
