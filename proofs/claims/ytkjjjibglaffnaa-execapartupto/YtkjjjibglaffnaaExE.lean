/-
  A task's run: all its deeds.
-/
import Derived.Test.YtkjjjibglaffnaaExD
namespace Go.Proofs.Ytkjjjibglaffnaa
open Go.RowKit
set_option maxRecDepth 8000
set_option maxHeartbeats 2000000 in
theorem run_any {r : Rc} {w : World} {vh : Value} {x0 : Ru} {R : Ru} {cv : Value} (hc : w.cell? ⟨r.t, 2, none⟩ = some cv) (hf : w.frozen? ⟨r.t, 2, none⟩ = false) (h : Rn r (w.setCell ⟨r.t, 2, none⟩ (Ptr r.c)) r.o vh x0) (hg : x0.g = 0) (hR : run r.p r.s r.D x0 = R) (hb : x0.h.length + r.D.length ≤ 1000000000) (hd : ∀ d ∈ r.D, -9223372036854775808 ≤ d.k ∧ d.k ≤ 9223372036854775807) :
    Calls Try.prog 60 #[Ptr r.t, Ptr r.c] w fun e w' => e = .returned (.tuple #[]) ∧ Ran r R w' := by
  have HX := hideIt (And.intro h (And.intro hR hb))
  have HDD := hideIt hd
  have iD : (r.D.length : Int) ≤ 1000000000 := by omega
  clear h hR hb hd
  go_enter Try.func60, Try.ntmps60
  go_wp2_with fail
  generalize w.setCell ⟨r.t, 2, none⟩ (Ptr r.c) = w1 at *
  go_loopw [4, 5] (fun gv iv wr => ∃ (j : Nat) (x : Ru), j ≤ r.D.length ∧ iv = .int .i64 j ∧ gv = .int .i64 x.g ∧ Left r R x0.h.length j x wr) (fun _ iv _ => r.D.length - (intOf iv).toNat)
  case atStart => exact ⟨0, x0, Nat.zero_le _, rfl, by rw [hg], ⟨_, _, HX.out.1⟩, HX.out.2.1, Nat.le_refl _⟩
  case round =>
    obtain ⟨j, x, hj, rfl, rfl, ⟨o2, vh2, hr⟩, hrun, hlen⟩ := hrel
    obtain ⟨ah, ch, rfl⟩ := hr.slice
    obtain ⟨y0, y1, y2, y3⟩ := hr.cells
    by_cases hjn : j < r.D.length
    · have i1 : (j : Int) < (r.D.length : Int) := by omega
      obtain ⟨bb, off, d, ea, hbb, hdj, e0, e1, e2⟩ := de_at hr.dr hjn
      have HK := hideIt (HDD.out d (List.mem_of_getElem? hdj))
      obtain ⟨dk, da, db⟩ := d
      have hrn := run_at r.p r.s hdj x
      rw [hrun] at hrn
      have HN := hideIt (show x.h.length ≤ 1073741824 by have := HX.out.2.2; omega)
      obtain ⟨gb, hgb⟩ : ∃ gb, gb = wr.heap.size := ⟨_, rfl⟩
      obtain ⟨W, hW⟩ : ∃ W, W = wr.alloc (.cells #[.int .i64 dk, .int .i64 da, .int .i64 db] 67) := ⟨_, rfl⟩
      have hbx : Box W gb ⟨dk, da, db⟩ := by rw [hW, hgb]; exact heap_alloc_new wr _
      have XQ := hideIt (show Q1 r o2 (.slice ah x.h.length ch) x gb ⟨dk, da, db⟩ W from ⟨hr.after (by rw [hW]; exact After.rfl.alloc _), hbx⟩)
      obtain ⟨v0, v1, v2, v3⟩ := XQ.out.1.cells
      have k0 := blk_cell hbx (i := 0) rfl
      dsimp only at e0 e1 e2 k0
      have k1 := blk_cell hbx (i := 1) rfl
      have k2 := blk_cell hbx (i := 2) rfl
      have HL := hideIt hlen
      have HW := hideIt hW
      have HG := hideIt hgb
      rw [ea] at y0 v0
      clear hr hrun hlen hbx hW hgb hbb hdj ea
      by_cases k0' : dk = 0
      · subst k0'
        dsimp only at hrn
        rw [if_neg (show ¬ (0 : Int) = 5 by decide)] at hrn
        have HE := hideIt (show run r.p r.s (r.D.drop (j + 1)) ⟨useT r.s x.t da, x.L, x.g, x.h ++ [⟨0, useA r.s x.t da⟩]⟩ = R from hrn.symm)
        clear hrn 
        go_wp2_with fail
        rw [← HW.out, ← HG.out]
        go_wp2_with fail
        refine region_inv (by kernel_rfl) (Tab.J (⟨15, fun i => [33, 34, 35, 36, 37, 38, 39, 40, 41, 42, 43, 44, 45, 46, 900].getD i 0, fun i => ([some (Ptr r.t), some (Ptr r.t), some (Ptr r.t), some (.pointer (some ⟨r.t, 1, none⟩)), some (.slice ah x.h.length ch), some (Ptr r.c), some (.pointer (some ⟨gb, 1, none⟩)), some (.int .i64 da), some (.bool (useA r.s x.t da)), some (.agg #[.int .i64 0, .bool (useA r.s x.t da)]), none, none, some (Ptr r.t), some (.pointer (some ⟨r.t, 1, none⟩)), none] : List (Option Value)).getD i none, ChR 8 10 11 14 4 r o2 (.slice ah x.h.length ch) x ⟨useT r.s x.t da, x.L, x.g, x.h⟩ ⟨0, useA r.s x.t da⟩ gb ⟨0, da, db⟩⟩ : Tab) _) ⟨rfl, rfl, fun _ _ => rfl, (fun _ _ _ _ h => by cases h), ChW.start (q1_start XQ.out)⟩ ?_ ?_
        · exact ⟨inv_move (.inl rfl) rfl rfl rfl rfl rfl rfl rfl rfl (ChW.keep (neB rfl) (neB rfl) (neB rfl) (neB rfl) (neB rfl) (neB rfl) (neB rfl)) rfl,
            inv_move (.inl rfl) rfl rfl rfl rfl rfl rfl rfl rfl (ChW.keep (neB rfl) (neB rfl) (neB rfl) (neB rfl) (neB rfl) (neB rfl) (neB rfl)) rfl,
            inv_nil rfl rfl rfl rfl rfl rfl rfl rfl rfl (ChW.keep (neB rfl) (neB rfl) (neB rfl) (neB rfl) (neB rfl) (neB rfl) (neB rfl)) rfl,
            inv_field rfl rfl rfl rfl rfl rfl rfl rfl rfl (ChW.keep (neB rfl) (neB rfl) (neB rfl) (neB rfl) (neB rfl) (neB rfl) (neB rfl)) rfl (fun w => fieldTk w _ _),
            inv_loadD rfl rfl rfl rfl rfl rfl rfl rfl rfl (ChW.keep (neB rfl) (neB rfl) (neB rfl) (neB rfl) (neB rfl) (neB rfl) (neB rfl)) rfl (fun L u w hl h => loadHe (blk_cell (chr_t1 hl h) (i := 1) rfl)),
            inv_move (.inl rfl) rfl rfl rfl rfl rfl rfl rfl rfl (ChW.keep (neB rfl) (neB rfl) (neB rfl) (neB rfl) (neB rfl) (neB rfl) (neB rfl)) rfl,
            inv_field rfl rfl rfl rfl rfl rfl rfl rfl rfl (ChW.keep (neB rfl) (neB rfl) (neB rfl) (neB rfl) (neB rfl) (neB rfl) (neB rfl)) rfl (fun w => fieldDe1 w _ _),
            inv_load rfl rfl rfl rfl rfl rfl rfl rfl rfl (ChW.keep (neB rfl) (neB rfl) (neB rfl) (neB rfl) (neB rfl) (neB rfl) (neB rfl)) rfl (fun L u w h => loadI (blk_cell (chr_box h) (i := 1) rfl)),
            inv_call rfl rfl rfl rfl rfl rfl rfl rfl (enterC Try.func29 (by kernel_rfl) (by kernel_rfl)) (fun a w L hv hd hl h => by
              rw [show (#[Operand.tmp 38, Operand.tmp 40] : Array Operand).map a.eval = #[a.eval (.tmp 38), a.eval (.tmp 40)] from by simp, hv (.tmp 38) _ rfl, hv (.tmp 40) _ rfl]
              exact (((h.ahead hl).1.1.use da)).mono (fun e w3 ⟨e1, h1, h2⟩ => ⟨_, e1, (fun v7 h7 => by cases h7; rfl), ChW.call (neB rfl) (neB rfl) (neB rfl) h hl ⟨h1, h2 _ _ (h.ahead hl).1.2⟩⟩)),
            inv_val (r := fun a => Instr.build 69 #[(1, a.eval (.tmp 41))]) rfl rfl rfl rfl rfl rfl rfl rfl (ChW.keep (neB rfl) (neB rfl) (neB rfl) (neB rfl) (neB rfl) (neB rfl) (neB rfl)) (fun a => by unfold execOp; simp) (fun a W hv => by
              rw [hv (.tmp 41) _ rfl]
              exact run_bHe1 _ W),
            inv_gen (r := fun a => Instr.buildSlice 60 1 #[(0, a.eval (.tmp 42))]) rfl rfl rfl rfl rfl rfl rfl (fun a => by unfold execOp; simp) (fun a W L hv hd hl h => by
              rw [hv (.tmp 42) _ rfl]
              exact ⟨_, _, run_bsHe _ _ W, (fun v7 h7 => by cases h7), ChW.lit (neB rfl) (neB rfl) (neB rfl) h (hd 8 rfl) hl (q2_of ⟨0, useA r.s x.t da⟩ (h.p1 (hd 8 rfl) hl))⟩),
            inv_any rfl rfl rfl rfl rfl rfl rfl rfl (fun a W L K hv hd hl h hK => by
              obtain ⟨q, eq, hq, hRn, hBox⟩ := h.p2 (hd 10 rfl) hl
              exact wp_lieE (E := heE) (.tmp 37) (.tmp 43) 60 69 Try.underlying60 Try.infoHe rfl (by decide) rfl _ x.h (hv (.tmp 37) _ rfl) hRn.own ⟨q, 0, none⟩ 1 ⟨0, useA r.s x.t da⟩ eq (lit_row hq rfl rfl) HN.out (fun g cap w3 h1 h2 h3 h4 => hK _ _ (ChW.app (neB rfl) (neB rfl) (neB rfl) h (hd 10 rfl) (hd 4 rfl) hl (air_of hRn hBox h1 h2 h3 h4)))),
            inv_nil rfl rfl rfl rfl rfl rfl rfl rfl rfl (ChW.keep (neB rfl) (neB rfl) (neB rfl) (neB rfl) (neB rfl) (neB rfl) (neB rfl)) rfl,
            inv_field rfl rfl rfl rfl rfl rfl rfl rfl rfl (ChW.keep (neB rfl) (neB rfl) (neB rfl) (neB rfl) (neB rfl) (neB rfl) (neB rfl)) rfl (fun w => fieldTk w _ _),
            inv_end rfl rfl rfl rfl rfl rfl (fun L a W hv hd hl h => by
              have h3 := h.p3 (hd 11 rfl) hl
              rw [hv (.tmp 46) _ rfl]
              obtain ⟨q, cap, eq⟩ := air_slice h3
              obtain ⟨o9, hRn, hBox⟩ := h3.land
              have c1 := blk_cell h3.at1 (i := 1) rfl
              have s1 := blk_soft h3.at1 1
              refine ⟨W.setCell ⟨r.t, 1, none⟩ (a.eval (.tmp 44)), ?_, ChW.store (neB rfl) (neB rfl) (neB rfl) h (hd 11 rfl) ⟨_, _, hRn, hBox⟩⟩
              rw [show a.eval (.tmp 44) = _ from eq]
              exact storeHe c1 s1),
            trivial⟩
        · intro a7 w7 L7 hL7 J7
          have e7 := J7.fin hL7 rfl
          have W7 := J7.other
          have h7 := W7.p4 (hL7 14 (Nat.le_of_ble_eq_true rfl))
          clear J7 W7
          rw [e7]
          clear e7
          generalize hv7 : Tab.u _ a7 = U7 at *
          simp only [Tab.puts, List.getD_cons_succ, List.getD_cons_zero, Option.getD_some, Option.getD_none, List.setIfInBounds_toArray, List.set_cons_succ, List.set_cons_zero, List.set_nil]
          clear hv7 hL7
          have H7 := hideIt (show ∃ o vh, Rn r w7 o vh ⟨useT r.s x.t da, x.L, x.g, x.h ++ [⟨0, useA r.s x.t da⟩]⟩ from by obtain ⟨o8, vh8, h8, _⟩ := h7; exact ⟨o8, vh8, h8⟩)
          clear h7
          generalize U7 10 = v10
          generalize U7 11 = v11
          generalize U7 _ = v12
          clear U7 a7
          go_wp2_with fail
          go_roundw
          case rel =>
            obtain ⟨o5, vh5, hr5⟩ := H7.out
            exact ⟨j + 1, ⟨useT r.s x.t da, x.L, x.g, x.h ++ [⟨0, useA r.s x.t da⟩]⟩, by omega, by go_num, rfl, ⟨_, _, hr5⟩, HE.out, by have := HL.out; simp; omega⟩
          case measure => simp [intOf]; omega
      by_cases k1' : dk = 1
      · subst k1'
        dsimp only at hrn
        rw [if_neg (show ¬ (1 : Int) = 5 by decide)] at hrn
        have HGt := hideIt (XQ.out.1.get da (getA x.L r.p da).v)
        have HE := hideIt (show run r.p r.s (r.D.drop (j + 1)) ⟨x.t, x.L, (getA x.L r.p da).v, x.h ++ [getA x.L r.p da]⟩ = R from hrn.symm)
        generalize getA x.L r.p da = y at *
        obtain ⟨yv, yi⟩ := y
        dsimp only at HGt HE
        clear hrn k0'
        go_wp2_with fail
        rw [← HW.out, ← HG.out]
        go_wp2_with fail
        refine HGt.out.mono ?_
        rintro e w3 ⟨rfl, r3, b3⟩
        have R3 := hideIt (And.intro r3 (b3 _ _ XQ.out.2))
        obtain ⟨u0', u1', u2', u3'⟩ := r3.cells
        clear r3 b3 y0 y1 y2 y3 v0 v1 v2 v3 k0 HGt
        go_wp2_with (at_builtin; go_must (refine app_lie (E := heE) rfl (.tmp 61) (.tmp 65) 60 69 Try.underlying60 Try.infoHe rfl (by decide) rfl _ x.h rfl (own_after R3.out.1.own (After.rfl.alloc _)) ⟨w3.heap.size, 0, none⟩ 1 ⟨yv, yi⟩ rfl (lit_row (heap_alloc_new w3 _) rfl rfl) HN.out ?_))
        intro q cap w4 h1 h2 h3 h4
        have HA := hideIt (air_of (R3.out.1.after (After.rfl.alloc _)) (R3.out.2.but (After.rfl.alloc (.cells #[.int .i64 yv, .bool yi] 69)) (fun t => t)) h1 h2 (by rw [World.size_alloc]; exact h3) h4)
        have c1 := blk_cell HA.out.at1 (i := 1) rfl
        have s1 := blk_soft HA.out.at1 1
        have H7 := hideIt (show ∃ o vh, Rn r (w4.setCell ⟨r.t, 1, none⟩ (.slice (some ⟨q, 0, none⟩) (x.h.length + 1) cap)) o vh ⟨x.t, x.L, yv, x.h ++ [⟨yv, yi⟩]⟩ from by obtain ⟨o8, h8, _⟩ := HA.out.land; exact ⟨o8, _, h8⟩)
        clear h1 h2 h3 h4 u0' u1' u2' u3'
        go_wp2_with fail
        go_roundw
        case rel =>
          obtain ⟨o5, vh5, hr5⟩ := H7.out
          exact ⟨j + 1, ⟨x.t, x.L, yv, x.h ++ [⟨yv, yi⟩]⟩, by omega, by go_num, rfl, ⟨_, _, hr5⟩, HE.out, by have := HL.out; simp; omega⟩
        case measure => simp [intOf]; omega
      by_cases k2' : dk = 2
      · subst k2'
        dsimp only at hrn
        rw [if_neg (show ¬ (2 : Int) = 5 by decide)] at hrn
        have HE := hideIt (show run r.p r.s (r.D.drop (j + 1)) ⟨x.t, putL x.L r.p x.t da db, x.g, x.h ++ [⟨0, putA x.L r.p x.t da⟩]⟩ = R from hrn.symm)
        clear hrn k0' k1'
        go_wp2_with fail
        rw [← HW.out, ← HG.out]
        go_wp2_with fail
        refine region_inv (by kernel_rfl) (Tab.J (⟨17, fun i => [71, 72, 73, 74, 75, 76, 77, 78, 79, 80, 81, 82, 83, 84, 85, 86, 900].getD i 0, fun i => ([some (Ptr r.t), some (Ptr r.t), some (Ptr r.t), some (.pointer (some ⟨r.t, 1, none⟩)), some (.slice ah x.h.length ch), some (Ptr r.c), some (.pointer (some ⟨gb, 1, none⟩)), some (.int .i64 da), some (.pointer (some ⟨gb, 2, none⟩)), some (.int .i64 db), some (.bool (putA x.L r.p x.t da)), some (.agg #[.int .i64 0, .bool (putA x.L r.p x.t da)]), none, none, some (Ptr r.t), some (.pointer (some ⟨r.t, 1, none⟩)), none] : List (Option Value)).getD i none, ChR 10 12 13 16 4 r o2 (.slice ah x.h.length ch) x ⟨x.t, putL x.L r.p x.t da db, x.g, x.h⟩ ⟨0, putA x.L r.p x.t da⟩ gb ⟨2, da, db⟩⟩ : Tab) _) ⟨rfl, rfl, fun _ _ => rfl, (fun _ _ _ _ h => by cases h), ChW.start (q1_start XQ.out)⟩ ?_ ?_
        · exact ⟨inv_move (.inl rfl) rfl rfl rfl rfl rfl rfl rfl rfl (ChW.keep (neB rfl) (neB rfl) (neB rfl) (neB rfl) (neB rfl) (neB rfl) (neB rfl)) rfl,
            inv_move (.inl rfl) rfl rfl rfl rfl rfl rfl rfl rfl (ChW.keep (neB rfl) (neB rfl) (neB rfl) (neB rfl) (neB rfl) (neB rfl) (neB rfl)) rfl,
            inv_nil rfl rfl rfl rfl rfl rfl rfl rfl rfl (ChW.keep (neB rfl) (neB rfl) (neB rfl) (neB rfl) (neB rfl) (neB rfl) (neB rfl)) rfl,
            inv_field rfl rfl rfl rfl rfl rfl rfl rfl rfl (ChW.keep (neB rfl) (neB rfl) (neB rfl) (neB rfl) (neB rfl) (neB rfl) (neB rfl)) rfl (fun w => fieldTk w _ _),
            inv_loadD rfl rfl rfl rfl rfl rfl rfl rfl rfl (ChW.keep (neB rfl) (neB rfl) (neB rfl) (neB rfl) (neB rfl) (neB rfl) (neB rfl)) rfl (fun L u w hl h => loadHe (blk_cell (chr_t1 hl h) (i := 1) rfl)),
            inv_move (.inl rfl) rfl rfl rfl rfl rfl rfl rfl rfl (ChW.keep (neB rfl) (neB rfl) (neB rfl) (neB rfl) (neB rfl) (neB rfl) (neB rfl)) rfl,
            inv_field rfl rfl rfl rfl rfl rfl rfl rfl rfl (ChW.keep (neB rfl) (neB rfl) (neB rfl) (neB rfl) (neB rfl) (neB rfl) (neB rfl)) rfl (fun w => fieldDe1 w _ _),
            inv_load rfl rfl rfl rfl rfl rfl rfl rfl rfl (ChW.keep (neB rfl) (neB rfl) (neB rfl) (neB rfl) (neB rfl) (neB rfl) (neB rfl)) rfl (fun L u w h => loadI (blk_cell (chr_box h) (i := 1) rfl)),
            inv_field rfl rfl rfl rfl rfl rfl rfl rfl rfl (ChW.keep (neB rfl) (neB rfl) (neB rfl) (neB rfl) (neB rfl) (neB rfl) (neB rfl)) rfl (fun w => fieldDe2 w _ _),
            inv_load rfl rfl rfl rfl rfl rfl rfl rfl rfl (ChW.keep (neB rfl) (neB rfl) (neB rfl) (neB rfl) (neB rfl) (neB rfl) (neB rfl)) rfl (fun L u w h => loadI (blk_cell (chr_box h) (i := 2) rfl)),
            inv_call rfl rfl rfl rfl rfl rfl rfl rfl (enterC Try.func30 (by kernel_rfl) (by kernel_rfl)) (fun a w L hv hd hl h => by
              rw [show (#[Operand.tmp 76, Operand.tmp 78, Operand.tmp 80] : Array Operand).map a.eval = #[a.eval (.tmp 76), a.eval (.tmp 78), a.eval (.tmp 80)] from by simp, hv (.tmp 76) _ rfl, hv (.tmp 78) _ rfl, hv (.tmp 80) _ rfl]
              exact (((h.ahead hl).1.1.put da db)).mono (fun e w3 ⟨e1, h1, h2⟩ => ⟨_, e1, (fun v7 h7 => by cases h7; rfl), ChW.call (neB rfl) (neB rfl) (neB rfl) h hl ⟨h1, h2 _ _ (h.ahead hl).1.2⟩⟩)),
            inv_val (r := fun a => Instr.build 69 #[(1, a.eval (.tmp 81))]) rfl rfl rfl rfl rfl rfl rfl rfl (ChW.keep (neB rfl) (neB rfl) (neB rfl) (neB rfl) (neB rfl) (neB rfl) (neB rfl)) (fun a => by unfold execOp; simp) (fun a W hv => by
              rw [hv (.tmp 81) _ rfl]
              exact run_bHe1 _ W),
            inv_gen (r := fun a => Instr.buildSlice 60 1 #[(0, a.eval (.tmp 82))]) rfl rfl rfl rfl rfl rfl rfl (fun a => by unfold execOp; simp) (fun a W L hv hd hl h => by
              rw [hv (.tmp 82) _ rfl]
              exact ⟨_, _, run_bsHe _ _ W, (fun v7 h7 => by cases h7), ChW.lit (neB rfl) (neB rfl) (neB rfl) h (hd 10 rfl) hl (q2_of ⟨0, putA x.L r.p x.t da⟩ (h.p1 (hd 10 rfl) hl))⟩),
            inv_any rfl rfl rfl rfl rfl rfl rfl rfl (fun a W L K hv hd hl h hK => by
              obtain ⟨q, eq, hq, hRn, hBox⟩ := h.p2 (hd 12 rfl) hl
              exact wp_lieE (E := heE) (.tmp 75) (.tmp 83) 60 69 Try.underlying60 Try.infoHe rfl (by decide) rfl _ x.h (hv (.tmp 75) _ rfl) hRn.own ⟨q, 0, none⟩ 1 ⟨0, putA x.L r.p x.t da⟩ eq (lit_row hq rfl rfl) HN.out (fun g cap w3 h1 h2 h3 h4 => hK _ _ (ChW.app (neB rfl) (neB rfl) (neB rfl) h (hd 12 rfl) (hd 4 rfl) hl (air_of hRn hBox h1 h2 h3 h4)))),
            inv_nil rfl rfl rfl rfl rfl rfl rfl rfl rfl (ChW.keep (neB rfl) (neB rfl) (neB rfl) (neB rfl) (neB rfl) (neB rfl) (neB rfl)) rfl,
            inv_field rfl rfl rfl rfl rfl rfl rfl rfl rfl (ChW.keep (neB rfl) (neB rfl) (neB rfl) (neB rfl) (neB rfl) (neB rfl) (neB rfl)) rfl (fun w => fieldTk w _ _),
            inv_end rfl rfl rfl rfl rfl rfl (fun L a W hv hd hl h => by
              have h3 := h.p3 (hd 13 rfl) hl
              rw [hv (.tmp 86) _ rfl]
              obtain ⟨q, cap, eq⟩ := air_slice h3
              obtain ⟨o9, hRn, hBox⟩ := h3.land
              have c1 := blk_cell h3.at1 (i := 1) rfl
              have s1 := blk_soft h3.at1 1
              refine ⟨W.setCell ⟨r.t, 1, none⟩ (a.eval (.tmp 84)), ?_, ChW.store (neB rfl) (neB rfl) (neB rfl) h (hd 13 rfl) ⟨_, _, hRn, hBox⟩⟩
              rw [show a.eval (.tmp 84) = _ from eq]
              exact storeHe c1 s1),
            trivial⟩
        · intro a7 w7 L7 hL7 J7
          have e7 := J7.fin hL7 rfl
          have W7 := J7.other
          have h7 := W7.p4 (hL7 16 (Nat.le_of_ble_eq_true rfl))
          clear J7 W7
          rw [e7]
          clear e7
          generalize hv7 : Tab.u _ a7 = U7 at *
          simp only [Tab.puts, List.getD_cons_succ, List.getD_cons_zero, Option.getD_some, Option.getD_none, List.setIfInBounds_toArray, List.set_cons_succ, List.set_cons_zero, List.set_nil]
          clear hv7 hL7
          have H7 := hideIt (show ∃ o vh, Rn r w7 o vh ⟨x.t, putL x.L r.p x.t da db, x.g, x.h ++ [⟨0, putA x.L r.p x.t da⟩]⟩ from by obtain ⟨o8, vh8, h8, _⟩ := h7; exact ⟨o8, vh8, h8⟩)
          clear h7
          generalize U7 12 = v10
          generalize U7 13 = v11
          generalize U7 _ = v12
          clear U7 a7
          go_wp2_with fail
          go_roundw
          case rel =>
            obtain ⟨o5, vh5, hr5⟩ := H7.out
            exact ⟨j + 1, ⟨x.t, putL x.L r.p x.t da db, x.g, x.h ++ [⟨0, putA x.L r.p x.t da⟩]⟩, by omega, by go_num, rfl, ⟨_, _, hr5⟩, HE.out, by have := HL.out; simp; omega⟩
          case measure => simp [intOf]; omega
      by_cases k3' : dk = 3
      · subst k3'
        dsimp only at hrn
        rw [if_neg (show ¬ (3 : Int) = 5 by decide)] at hrn
        have HGt := hideIt XQ.out.1.fail
        have HE := hideIt (show run r.p r.s (r.D.drop (j + 1)) ⟨x.t.fail, x.L, x.g, x.h⟩ = R from hrn.symm)
        clear hrn k0' k1' k2'
        go_wp2_with fail
        rw [← HW.out, ← HG.out]
        go_wp2_with fail
        refine HGt.out.mono ?_
        rintro e w3 ⟨rfl, r3, b3⟩
        have H7 := hideIt (show ∃ o vh, Rn r w3 o vh ⟨x.t.fail, x.L, x.g, x.h⟩ from ⟨_, _, r3⟩)
        clear r3 b3 HGt
        go_wp2_with fail
        go_roundw
        case rel =>
          obtain ⟨o5, vh5, hr5⟩ := H7.out
          exact ⟨j + 1, ⟨x.t.fail, x.L, x.g, x.h⟩, by omega, by go_num, rfl, ⟨_, _, hr5⟩, HE.out, by have := HL.out; simp; omega⟩
        case measure => simp [intOf]; omega
      by_cases k4' : dk = 4
      · subst k4'
        dsimp only at hrn
        rw [if_neg (show ¬ (4 : Int) = 5 by decide)] at hrn
        have HE := hideIt (show run r.p r.s (r.D.drop (j + 1)) ⟨x.t, putL x.L r.p x.t da (wrap64 (x.g + db)), x.g, x.h ++ [⟨0, putA x.L r.p x.t da⟩]⟩ = R from hrn.symm)
        clear hrn k0' k1' k2' k3'
        go_wp2_with fail
        rw [← HW.out, ← HG.out]
        go_wp2_with fail
        refine region_inv (by kernel_rfl) (Tab.J (⟨19, fun i => [93, 94, 95, 96, 97, 98, 99, 100, 101, 102, 103, 104, 105, 106, 107, 108, 109, 110, 900].getD i 0, fun i => ([some (Ptr r.t), some (Ptr r.t), some (Ptr r.t), some (.pointer (some ⟨r.t, 1, none⟩)), some (.slice ah x.h.length ch), some (Ptr r.c), some (.pointer (some ⟨gb, 1, none⟩)), some (.int .i64 da), some (.int .i64 x.g), some (.pointer (some ⟨gb, 2, none⟩)), some (.int .i64 db), some (.int .i64 (wrap64 (x.g + db))), some (.bool (putA x.L r.p x.t da)), some (.agg #[.int .i64 0, .bool (putA x.L r.p x.t da)]), none, none, some (Ptr r.t), some (.pointer (some ⟨r.t, 1, none⟩)), none] : List (Option Value)).getD i none, ChR 12 14 15 18 4 r o2 (.slice ah x.h.length ch) x ⟨x.t, putL x.L r.p x.t da (wrap64 (x.g + db)), x.g, x.h⟩ ⟨0, putA x.L r.p x.t da⟩ gb ⟨4, da, db⟩⟩ : Tab) _) ⟨rfl, rfl, fun _ _ => rfl, (fun _ _ _ _ h => by cases h), ChW.start (q1_start XQ.out)⟩ ?_ ?_
        · exact ⟨inv_move (.inl rfl) rfl rfl rfl rfl rfl rfl rfl rfl (ChW.keep (neB rfl) (neB rfl) (neB rfl) (neB rfl) (neB rfl) (neB rfl) (neB rfl)) rfl,
            inv_move (.inl rfl) rfl rfl rfl rfl rfl rfl rfl rfl (ChW.keep (neB rfl) (neB rfl) (neB rfl) (neB rfl) (neB rfl) (neB rfl) (neB rfl)) rfl,
            inv_nil rfl rfl rfl rfl rfl rfl rfl rfl rfl (ChW.keep (neB rfl) (neB rfl) (neB rfl) (neB rfl) (neB rfl) (neB rfl) (neB rfl)) rfl,
            inv_field rfl rfl rfl rfl rfl rfl rfl rfl rfl (ChW.keep (neB rfl) (neB rfl) (neB rfl) (neB rfl) (neB rfl) (neB rfl) (neB rfl)) rfl (fun w => fieldTk w _ _),
            inv_loadD rfl rfl rfl rfl rfl rfl rfl rfl rfl (ChW.keep (neB rfl) (neB rfl) (neB rfl) (neB rfl) (neB rfl) (neB rfl) (neB rfl)) rfl (fun L u w hl h => loadHe (blk_cell (chr_t1 hl h) (i := 1) rfl)),
            inv_move (.inl rfl) rfl rfl rfl rfl rfl rfl rfl rfl (ChW.keep (neB rfl) (neB rfl) (neB rfl) (neB rfl) (neB rfl) (neB rfl) (neB rfl)) rfl,
            inv_field rfl rfl rfl rfl rfl rfl rfl rfl rfl (ChW.keep (neB rfl) (neB rfl) (neB rfl) (neB rfl) (neB rfl) (neB rfl) (neB rfl)) rfl (fun w => fieldDe1 w _ _),
            inv_load rfl rfl rfl rfl rfl rfl rfl rfl rfl (ChW.keep (neB rfl) (neB rfl) (neB rfl) (neB rfl) (neB rfl) (neB rfl) (neB rfl)) rfl (fun L u w h => loadI (blk_cell (chr_box h) (i := 1) rfl)),
            inv_move (.inl rfl) rfl rfl rfl rfl rfl rfl rfl rfl (ChW.keep (neB rfl) (neB rfl) (neB rfl) (neB rfl) (neB rfl) (neB rfl) (neB rfl)) rfl,
            inv_field rfl rfl rfl rfl rfl rfl rfl rfl rfl (ChW.keep (neB rfl) (neB rfl) (neB rfl) (neB rfl) (neB rfl) (neB rfl) (neB rfl)) rfl (fun w => fieldDe2 w _ _),
            inv_load rfl rfl rfl rfl rfl rfl rfl rfl rfl (ChW.keep (neB rfl) (neB rfl) (neB rfl) (neB rfl) (neB rfl) (neB rfl) (neB rfl)) rfl (fun L u w h => loadI (blk_cell (chr_box h) (i := 2) rfl)),
            inv_bin rfl rfl rfl rfl rfl rfl rfl rfl rfl (ChW.keep (neB rfl) (neB rfl) (neB rfl) (neB rfl) (neB rfl) (neB rfl) (neB rfl)) rfl rfl (fun w => by simp [go_sem, eqGuard, IntWalk.i64_left]),
            inv_call rfl rfl rfl rfl rfl rfl rfl rfl (enterC Try.func30 (by kernel_rfl) (by kernel_rfl)) (fun a w L hv hd hl h => by
              rw [show (#[Operand.tmp 98, Operand.tmp 100, Operand.tmp 104] : Array Operand).map a.eval = #[a.eval (.tmp 98), a.eval (.tmp 100), a.eval (.tmp 104)] from by simp, hv (.tmp 98) _ rfl, hv (.tmp 100) _ rfl, hv (.tmp 104) _ rfl]
              exact (((h.ahead hl).1.1.put da (wrap64 (x.g + db)))).mono (fun e w3 ⟨e1, h1, h2⟩ => ⟨_, e1, (fun v7 h7 => by cases h7; rfl), ChW.call (neB rfl) (neB rfl) (neB rfl) h hl ⟨h1, h2 _ _ (h.ahead hl).1.2⟩⟩)),
            inv_val (r := fun a => Instr.build 69 #[(1, a.eval (.tmp 105))]) rfl rfl rfl rfl rfl rfl rfl rfl (ChW.keep (neB rfl) (neB rfl) (neB rfl) (neB rfl) (neB rfl) (neB rfl) (neB rfl)) (fun a => by unfold execOp; simp) (fun a W hv => by
              rw [hv (.tmp 105) _ rfl]
              exact run_bHe1 _ W),
            inv_gen (r := fun a => Instr.buildSlice 60 1 #[(0, a.eval (.tmp 106))]) rfl rfl rfl rfl rfl rfl rfl (fun a => by unfold execOp; simp) (fun a W L hv hd hl h => by
              rw [hv (.tmp 106) _ rfl]
              exact ⟨_, _, run_bsHe _ _ W, (fun v7 h7 => by cases h7), ChW.lit (neB rfl) (neB rfl) (neB rfl) h (hd 12 rfl) hl (q2_of ⟨0, putA x.L r.p x.t da⟩ (h.p1 (hd 12 rfl) hl))⟩),
            inv_any rfl rfl rfl rfl rfl rfl rfl rfl (fun a W L K hv hd hl h hK => by
              obtain ⟨q, eq, hq, hRn, hBox⟩ := h.p2 (hd 14 rfl) hl
              exact wp_lieE (E := heE) (.tmp 97) (.tmp 107) 60 69 Try.underlying60 Try.infoHe rfl (by decide) rfl _ x.h (hv (.tmp 97) _ rfl) hRn.own ⟨q, 0, none⟩ 1 ⟨0, putA x.L r.p x.t da⟩ eq (lit_row hq rfl rfl) HN.out (fun g cap w3 h1 h2 h3 h4 => hK _ _ (ChW.app (neB rfl) (neB rfl) (neB rfl) h (hd 14 rfl) (hd 4 rfl) hl (air_of hRn hBox h1 h2 h3 h4)))),
            inv_nil rfl rfl rfl rfl rfl rfl rfl rfl rfl (ChW.keep (neB rfl) (neB rfl) (neB rfl) (neB rfl) (neB rfl) (neB rfl) (neB rfl)) rfl,
            inv_field rfl rfl rfl rfl rfl rfl rfl rfl rfl (ChW.keep (neB rfl) (neB rfl) (neB rfl) (neB rfl) (neB rfl) (neB rfl) (neB rfl)) rfl (fun w => fieldTk w _ _),
            inv_end rfl rfl rfl rfl rfl rfl (fun L a W hv hd hl h => by
              have h3 := h.p3 (hd 15 rfl) hl
              rw [hv (.tmp 110) _ rfl]
              obtain ⟨q, cap, eq⟩ := air_slice h3
              obtain ⟨o9, hRn, hBox⟩ := h3.land
              have c1 := blk_cell h3.at1 (i := 1) rfl
              have s1 := blk_soft h3.at1 1
              refine ⟨W.setCell ⟨r.t, 1, none⟩ (a.eval (.tmp 108)), ?_, ChW.store (neB rfl) (neB rfl) (neB rfl) h (hd 15 rfl) ⟨_, _, hRn, hBox⟩⟩
              rw [show a.eval (.tmp 108) = _ from eq]
              exact storeHe c1 s1),
            trivial⟩
        · intro a7 w7 L7 hL7 J7
          have e7 := J7.fin hL7 rfl
          have W7 := J7.other
          have h7 := W7.p4 (hL7 18 (Nat.le_of_ble_eq_true rfl))
          clear J7 W7
          rw [e7]
          clear e7
          generalize hv7 : Tab.u _ a7 = U7 at *
          simp only [Tab.puts, List.getD_cons_succ, List.getD_cons_zero, Option.getD_some, Option.getD_none, List.setIfInBounds_toArray, List.set_cons_succ, List.set_cons_zero, List.set_nil]
          clear hv7 hL7
          have H7 := hideIt (show ∃ o vh, Rn r w7 o vh ⟨x.t, putL x.L r.p x.t da (wrap64 (x.g + db)), x.g, x.h ++ [⟨0, putA x.L r.p x.t da⟩]⟩ from by obtain ⟨o8, vh8, h8, _⟩ := h7; exact ⟨o8, vh8, h8⟩)
          clear h7
          generalize U7 14 = v10
          generalize U7 15 = v11
          generalize U7 _ = v12
          clear U7 a7
          go_wp2_with fail
          go_roundw
          case rel =>
            obtain ⟨o5, vh5, hr5⟩ := H7.out
            exact ⟨j + 1, ⟨x.t, putL x.L r.p x.t da (wrap64 (x.g + db)), x.g, x.h ++ [⟨0, putA x.L r.p x.t da⟩]⟩, by omega, by go_num, rfl, ⟨_, _, hr5⟩, HE.out, by have := HL.out; simp; omega⟩
          case measure => simp [intOf]; omega
      by_cases k5' : dk = 5
      · subst k5'
        dsimp only at hrn
        rw [if_pos rfl] at hrn
        have HGt := hideIt XQ.out.1.fail
        rw [← hrn] at HGt
        clear hrn k0' k1' k2' k3' k4'
        go_wp2_with fail
        rw [← HW.out, ← HG.out]
        go_wp2_with fail
        refine HGt.out.mono ?_
        rintro e w3 ⟨rfl, r3, b3⟩
        go_wp2_with fail
        exact bodyPost_ret (v := .tuple #[]) (by simp [results, Try.results60, go_sem]) rfl ⟨rfl, _, _, r3⟩
      · dsimp only at hrn
        rw [if_neg k5'] at hrn
        have ed : dst r.p r.s ⟨dk, da, db⟩ x = x := by unfold dst; simp [k0', k1', k2', k3', k4']
        rw [ed] at hrn
        have HE := hideIt (show run r.p r.s (r.D.drop (j + 1)) x = R from hrn.symm)
        have e0' : (dk == 0) = false := by simp [k0']
        have e1' : (dk == 1) = false := by simp [k1']
        have e2' : (dk == 2) = false := by simp [k2']
        have e3' : (dk == 3) = false := by simp [k3']
        have e4' : (dk == 4) = false := by simp [k4']
        have e5' : (dk == 5) = false := by simp [k5']
        have H7 := hideIt (show ∃ o vh, Rn r W o vh x from ⟨_, _, XQ.out.1⟩)
        clear hrn ed k0' k1' k2' k3' k4' k5'
        go_wp2_with fail
        rw [← HW.out]
        go_roundw
        case rel =>
          obtain ⟨o5, vh5, hr5⟩ := H7.out
          exact ⟨j + 1, x, by omega, by go_num, rfl, ⟨_, _, hr5⟩, HE.out, by have := HL.out; simp; omega⟩
        case measure => simp [intOf]; omega
    · have i1 : ¬ (j : Int) < (r.D.length : Int) := by omega
      rw [run_end r.p r.s (by omega)] at hrun
      subst hrun
      have HR := hideIt hr
      clear hr
      go_wp2_with fail
      go_end0
      exact ⟨rfl, _, _, HR.out⟩
end Go.Proofs.Ytkjjjibglaffnaa
