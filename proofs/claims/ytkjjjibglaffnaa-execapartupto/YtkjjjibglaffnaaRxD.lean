/-
  The document's turn: all its deeds.
-/
import Derived.Test.YtkjjjibglaffnaaRxC
namespace Go.Proofs.Ytkjjjibglaffnaa
open Go.RowKit
set_option maxRecDepth 8000
theorem Rx.lt {w : World} {d : Rq} {x : Xp} (h : Rx w d x) (k : Nat) (hk : d.In k ∨ d.Row x k) : k < w.heap.size := by
  rcases hk with (rfl | rfl | rfl) | ⟨z, hz, hn, rfl⟩ | ⟨f, hf, z, hz, hn, rfl⟩ | ⟨z, hz, hn, rfl⟩ | ⟨z, hz, hn, rfl⟩
  · exact blk_lt h.at0
  · exact blk_lt h.bh
  · exact blk_lt h.bv
  · obtain ⟨b, off, e, hl⟩ := h.rf.lt hn
    rw [hz] at e; cases e; exact hl
  · obtain ⟨b, off, e, hl⟩ := (h.fw f hf).lt hn
    rw [hz] at e; cases e; exact hl
  · obtain ⟨b, off, e, hl⟩ := h.rs.lt hn
    rw [hz] at e; cases e; exact hl
  · obtain ⟨b, off, e, hl⟩ := h.rl.lt hn
    rw [hz] at e; cases e; exact hl
/-- What a turn answers, and leaves behind. -/
def TurnedT (w : World) (d : Rq) (x : Xp) (p : Int) (R : Ru) (e : Ending) (w' : World) : Prop := ∃ vh, e = .returned (.agg (turC p R.t vh)) ∧ ORow heE 69 w' 0 vh R.h ∧ (∀ k, vh.ownBlock = some k → w.heap.size ≤ k) ∧ Rx w' d { x with L := R.L } ∧ But d.In w w'
theorem turnedT_of {r : Rdt} {w : World} {vh : Value} {R : Ru} (h : Rt r w vh R) {w' : World} (b : But (One r.b) w w') : TurnedT r.w0 r.d r.x r.p R (.returned (.agg (turC r.p R.t vh))) w' := by
  have far : ∀ k, k < r.w0.heap.size → ¬ One r.b k := fun k hk s => by have s : k = r.b := s; have := h.lb; omega
  obtain ⟨c0, c1, c2, c3, c4, hb⟩ := h.bt
  exact ⟨vh, rfl, own_but h.own b (fun k hk s => own_farT h.own (by decide) hb (by rw [hk]; exact congrArg some s)), h.lh, h.ex.but b (fun k hk => far k (h.lx k (.inl hk))) (fun k hk => far k (h.lx k (.inr hk))), h.go.then b (fun k hk s => (far k hk s).elim)⟩
theorem five {w : World} {b : Nat} {T : TypeId} {c0 c1 c2 c3 c4 : Value} (h : w.heap[b]? = some (.cells #[c0, c1, c2, c3, c4] T (0, 0))) (a0 a1 a2 a3 a4 : Value) :
    (((((w.setCell ⟨b, 0, none⟩ a0).setCell ⟨b, 1, none⟩ a1).setCell ⟨b, 2, none⟩ a2).setCell ⟨b, 3, none⟩ a3).setCell ⟨b, 4, none⟩ a4).heap[b]? = some (.cells #[a0, a1, a2, a3, a4] T (0, 0)) ∧ But (One b) w (((((w.setCell ⟨b, 0, none⟩ a0).setCell ⟨b, 1, none⟩ a1).setCell ⟨b, 2, none⟩ a2).setCell ⟨b, 3, none⟩ a3).setCell ⟨b, 4, none⟩ a4) :=
  ⟨blk_put (blk_put (blk_put (blk_put (blk_put h 0 a0) 1 a1) 2 a2) 3 a3) 4 a4, ((((but_one _ b 0 a0).trans (but_one _ b 1 a1)).trans (but_one _ b 2 a2)).trans (but_one _ b 3 a3)).trans (but_one _ b 4 a4)⟩
set_option maxHeartbeats 4000000 in
theorem turn_any2 {r : Rdt} {w1 : World} {R : Ru} {vh0 : Value} {ad : Option Addr} (hra : r.a = ad) (h : Rt r w1 vh0 ⟨Tn.new, r.x.L, 0, []⟩) (hW : w1 = (r.w0.alloc (.cells #[.int .i64 0, .int .i64 0, .bool false, .bool false, .slice none 0 0] 92)).alloc (.cells #[.int .i64 r.p, .int .i64 0, .bool false, .bool false, .slice none 0 0] 92)) (hrb : r.b = r.w0.heap.size) (hrt : r.t = r.w0.heap.size + 1) (hR : run r.p r.s r.D ⟨Tn.new, r.x.L, 0, []⟩ = R) (hb : r.D.length ≤ 1000000000) (hd : ∀ d ∈ r.D, -9223372036854775808 ≤ d.k ∧ d.k ≤ 9223372036854775807) :
    Calls Try.prog 33 #[Ptr r.d.q, .int .i64 r.p, .slice ad r.D.length r.cap] r.w0 (TurnedT r.w0 r.d r.x r.p R) := by
  have HX := hideIt (And.intro h (And.intro hR hb))
  have HDD := hideIt hd
  have HWW := hideIt hW
  have HRB := hideIt hrb
  have HRT := hideIt hrt
  have HRA := hideIt hra
  have iD : (r.D.length : Int) ≤ 1000000000 := by omega
  clear h hR hb hd hW hrb hrt hra
  go_enter Try.func33, Try.ntmps33
  go_wp2_with fail
  rw [← HWW.out, ← HRT.out, ← HRB.out]
  go_loopw [8, 9] (fun gv iv wr => ∃ (j : Nat) (x : Ru), j ≤ r.D.length ∧ iv = .int .i64 j ∧ gv = .int .i64 x.g ∧ LeftT r R j x wr) (fun _ iv _ => r.D.length - (intOf iv).toNat)
  case atStart => exact ⟨0, ⟨Tn.new, r.x.L, 0, []⟩, Nat.zero_le _, rfl, rfl, ⟨_, HX.out.1⟩, HX.out.2.1, Nat.le_refl _⟩
  case round =>
    obtain ⟨j, x, hj, rfl, rfl, ⟨vh2, hr⟩, hrun, hlen⟩ := hrel
    obtain ⟨ah, ch, rfl⟩ := hr.slice
    by_cases hjn : j < r.D.length
    · have i1 : (j : Int) < (r.D.length : Int) := by omega
      obtain ⟨bb, off, d, ea, hbb, hdj, e0, e1, e2⟩ := de_at hr.dr hjn
      obtain ⟨y0, y1, y2, y3, y4⟩ := hr.cells
      have ly := blk_lt hr.at0
      have HSF := hideIt (blk_soft hr.at0)
      have XB := hideIt hr.bt
      have HR0 := hideIt hr
      have HK := hideIt (HDD.out d (List.mem_of_getElem? hdj))
      obtain ⟨dk, da, db⟩ := d
      have hrn := run_at r.p r.s hdj x
      rw [hrun] at hrn
      have HN := hideIt (show x.h.length ≤ 1073741824 by have := HX.out.2.2; omega)
      obtain ⟨gb, hgb⟩ : ∃ gb, gb = wr.heap.size := ⟨_, rfl⟩
      obtain ⟨W, hW⟩ : ∃ W, W = wr.alloc (.cells #[.int .i64 dk, .int .i64 da, .int .i64 db] 67) := ⟨_, rfl⟩
      have hbx : Box W gb ⟨dk, da, db⟩ := by rw [hW, hgb]; exact heap_alloc_new wr _
      have XQ := hideIt (show QT1 r (.slice ah x.h.length ch) x gb ⟨dk, da, db⟩ W from ⟨hr.after (by rw [hW]; exact After.rfl.alloc _), hbx⟩)
      obtain ⟨v0, v1, v2, v3, v4⟩ := XQ.out.1.cells
      have lt := blk_lt XQ.out.1.at0
      have k0 := blk_cell hbx (i := 0) rfl
      dsimp only at e0 e1 e2 k0
      have k1 := blk_cell hbx (i := 1) rfl
      have k2 := blk_cell hbx (i := 2) rfl
      have HL := hideIt hlen
      have HW := hideIt hW
      have HG := hideIt hgb
      have ea' : ad = some ⟨bb, off, none⟩ := HRA.out.symm.trans ea
      subst ea'
      clear hr hrun hlen hbx hW hgb hbb hdj ea
      by_cases k0' : dk = 0
      · subst k0'
        dsimp only at hrn
        rw [if_neg (show ¬ (0 : Int) = 5 by decide)] at hrn
        obtain ⟨sb, so, es, z0, z1, z2, z3⟩ := HR0.out.steps
        have p0 := HR0.out.p0
        have z4 : r.p < (r.x.st.length : Int) := by omega
        have lqq := blk_lt HR0.out.ex.at0
        obtain ⟨i2, i3⟩ := HR0.out.st
        have i4 := HR0.out.sm
        have HS := HSF
        obtain ⟨⟨tu, ov, fa⟩, xL, xg, xh⟩ := x
        dsimp only at hrn y0 y1 y2 y3 y4 i2 i3
        clear v0 v1 v2 v3 v4 k0 k1 k2 lt
        by_cases hno : ov = true ∨ fa = true ∨ da < 0
        · have eu : useT r.s ⟨tu, ov, fa⟩ da = ⟨tu, ov, fa⟩ := by
            unfold useT Tn.stop
            rcases hno with h | h | h
            · simp [h]
            · simp [h]
            · rw [if_pos h]; simp
          have ea : useA r.s ⟨tu, ov, fa⟩ da = false := by
            unfold useA Tn.stop
            rcases hno with h | h | h
            · simp [h]
            · simp [h]
            · simp [show ¬ 0 ≤ da from by omega]
          have HE := hideIt (show run r.p r.s (r.D.drop (j + 1)) ⟨⟨tu, ov, fa⟩, xL, xg, xh ++ [⟨0, false⟩]⟩ = R from by rw [hrn]; unfold dst; rw [if_pos rfl, eu, ea])
          clear hrn eu ea
          have R3 := hideIt (show Rt r (wr.alloc (.cells #[.int .i64 0, .int .i64 da, .int .i64 db] 67)) (.slice ah xh.length ch) ⟨⟨tu, ov, fa⟩, xL, xg, xh⟩ ∧ Box (wr.alloc (.cells #[.int .i64 0, .int .i64 da, .int .i64 db] 67)) wr.heap.size ⟨0, da, db⟩ from ⟨HR0.out.after (After.rfl.alloc _), heap_alloc_new wr _⟩)
          have hgo : (da < 0) ∨ (0 ≤ da ∧ ov = true) ∨ (0 ≤ da ∧ ov = false ∧ fa = true) := by
            rcases hno with h | h | h
            · by_cases hd : 0 ≤ da
              · exact .inr (.inl ⟨hd, h⟩)
              · exact .inl (by omega)
            · by_cases hd : 0 ≤ da
              · cases ov
                · exact .inr (.inr ⟨hd, rfl, h⟩)
                · exact .inr (.inl ⟨hd, rfl⟩)
              · exact .inl (by omega)
            · exact .inl h
          clear hno
          rcases hgo with h | ⟨h, rfl⟩ | ⟨h, rfl, rfl⟩
          · have hda : ¬ 0 ≤ da := by omega
            go_wp2_with (at_builtin; go_must (refine app_lie (E := heE) rfl (.tmp 63) (.tmp 66) 60 69 Try.underlying60 Try.infoHe rfl (by decide) rfl _ xh rfl (own_after R3.out.1.own (After.rfl.alloc _)) ⟨wr.heap.size + 1, 0, none⟩ 1 ⟨0, false⟩ rfl (lit_row (cs := #[.int .i64 (0), .bool (false)]) (by rw [← World.size_alloc]; exact heap_alloc_new _ _) rfl rfl) HN.out ?_))
            intro q cap w4 h1 h2 h3 h4
            have HA := hideIt (airt_of (R3.out.1.after (After.rfl.alloc _)) (R3.out.2.but (After.rfl.alloc (.cells #[.int .i64 (0), .bool (false)] 69)) (fun t => t)) h1 h2 (by first | exact h3 | (simp only [World.size_alloc] at h3 ⊢; exact h3)) h4)
            have c1 := blk_cell HA.out.at1 (i := 4) rfl
            have s1 := blk_soft HA.out.at1 4
            have H7 := hideIt (show ∃ vh, Rt r (w4.setCell ⟨r.t, 4, none⟩ (.slice (some ⟨q, 0, none⟩) (xh.length + 1) cap)) vh ⟨⟨tu, ov, fa⟩, xL, xg, xh ++ [⟨0, false⟩]⟩ from ⟨_, HA.out.land.1⟩)
            clear h1 h2 h3 h4 
            go_wp2_with fail
            go_roundw
            case rel =>
              obtain ⟨vh5, hr5⟩ := H7.out
              exact ⟨j + 1, ⟨⟨tu, ov, fa⟩, xL, xg, xh ++ [⟨0, false⟩]⟩, by omega, by go_num, rfl, ⟨_, hr5⟩, HE.out, by have := HL.out; first | omega | (simp; omega)⟩
            case measure => simp [intOf]; omega
          · skip
            go_wp2_with (at_builtin; go_must (refine app_lie (E := heE) rfl (.tmp 63) (.tmp 66) 60 69 Try.underlying60 Try.infoHe rfl (by decide) rfl _ xh rfl (own_after R3.out.1.own (After.rfl.alloc _)) ⟨wr.heap.size + 1, 0, none⟩ 1 ⟨0, false⟩ rfl (lit_row (cs := #[.int .i64 (0), .bool (false)]) (by rw [← World.size_alloc]; exact heap_alloc_new _ _) rfl rfl) HN.out ?_))
            intro q cap w4 h1 h2 h3 h4
            have HA := hideIt (airt_of (R3.out.1.after (After.rfl.alloc _)) (R3.out.2.but (After.rfl.alloc (.cells #[.int .i64 (0), .bool (false)] 69)) (fun t => t)) h1 h2 (by first | exact h3 | (simp only [World.size_alloc] at h3 ⊢; exact h3)) h4)
            have c1 := blk_cell HA.out.at1 (i := 4) rfl
            have s1 := blk_soft HA.out.at1 4
            have H7 := hideIt (show ∃ vh, Rt r (w4.setCell ⟨r.t, 4, none⟩ (.slice (some ⟨q, 0, none⟩) (xh.length + 1) cap)) vh ⟨⟨tu, true, fa⟩, xL, xg, xh ++ [⟨0, false⟩]⟩ from ⟨_, HA.out.land.1⟩)
            clear h1 h2 h3 h4 
            go_wp2_with fail
            go_roundw
            case rel =>
              obtain ⟨vh5, hr5⟩ := H7.out
              exact ⟨j + 1, ⟨⟨tu, true, fa⟩, xL, xg, xh ++ [⟨0, false⟩]⟩, by omega, by go_num, rfl, ⟨_, hr5⟩, HE.out, by have := HL.out; first | omega | (simp; omega)⟩
            case measure => simp [intOf]; omega
          · skip
            go_wp2_with (at_builtin; go_must (refine app_lie (E := heE) rfl (.tmp 63) (.tmp 66) 60 69 Try.underlying60 Try.infoHe rfl (by decide) rfl _ xh rfl (own_after R3.out.1.own (After.rfl.alloc _)) ⟨wr.heap.size + 1, 0, none⟩ 1 ⟨0, false⟩ rfl (lit_row (cs := #[.int .i64 (0), .bool (false)]) (by rw [← World.size_alloc]; exact heap_alloc_new _ _) rfl rfl) HN.out ?_))
            intro q cap w4 h1 h2 h3 h4
            have HA := hideIt (airt_of (R3.out.1.after (After.rfl.alloc _)) (R3.out.2.but (After.rfl.alloc (.cells #[.int .i64 (0), .bool (false)] 69)) (fun t => t)) h1 h2 (by first | exact h3 | (simp only [World.size_alloc] at h3 ⊢; exact h3)) h4)
            have c1 := blk_cell HA.out.at1 (i := 4) rfl
            have s1 := blk_soft HA.out.at1 4
            have H7 := hideIt (show ∃ vh, Rt r (w4.setCell ⟨r.t, 4, none⟩ (.slice (some ⟨q, 0, none⟩) (xh.length + 1) cap)) vh ⟨⟨tu, false, true⟩, xL, xg, xh ++ [⟨0, false⟩]⟩ from ⟨_, HA.out.land.1⟩)
            clear h1 h2 h3 h4 
            go_wp2_with fail
            go_roundw
            case rel =>
              obtain ⟨vh5, hr5⟩ := H7.out
              exact ⟨j + 1, ⟨⟨tu, false, true⟩, xL, xg, xh ++ [⟨0, false⟩]⟩, by omega, by go_num, rfl, ⟨_, hr5⟩, HE.out, by have := HL.out; first | omega | (simp; omega)⟩
            case measure => simp [intOf]; omega
        · have hov : ov = false := by cases ov; rfl; exact absurd (.inl rfl) hno
          have hfa : fa = false := by cases fa; rfl; exact absurd (.inr (.inl rfl)) hno
          have hda : 0 ≤ da := by omega
          subst hov hfa
          have s1' := HSF.out 1
          have s2' := HSF.out 2
          by_cases hbig : r.s - tu < da
          · have eu : useT r.s ⟨tu, false, false⟩ da = ⟨tu, true, false⟩ := by
              unfold useT Tn.stop
              simp [show ¬ da < 0 from by omega, hbig]
            have ea : useA r.s ⟨tu, false, false⟩ da = false := by
              unfold useA Tn.stop
              simp [hda]
              omega
            have HE := hideIt (show run r.p r.s (r.D.drop (j + 1)) ⟨⟨tu, true, false⟩, xL, xg, xh ++ [⟨0, false⟩]⟩ = R from by rw [hrn]; unfold dst; rw [if_pos rfl, eu, ea])
            clear hrn eu ea
            go_wp2_with fail
            go_quiet (fail)
            have hsz : (((wr.alloc (.cells #[.int .i64 0, .int .i64 da, .int .i64 db] 67)).drewN nq).setCell ⟨r.t, 2, none⟩ (.bool true)).heap.size = wr.heap.size + 1 := by simp [World.setCell, World.drewN]
            have R3 := hideIt (show Rt r (((wr.alloc (.cells #[.int .i64 0, .int .i64 da, .int .i64 db] 67)).drewN nq).setCell ⟨r.t, 2, none⟩ (.bool true)) (.slice ah xh.length ch) ⟨⟨tu, true, false⟩, xL, xg, xh⟩ ∧ Box (((wr.alloc (.cells #[.int .i64 0, .int .i64 da, .int .i64 db] 67)).drewN nq).setCell ⟨r.t, 2, none⟩ (.bool true)) wr.heap.size ⟨0, da, db⟩ from ⟨(HR0.out.after (After.draws (After.rfl.alloc _) nq)).set 2 (.bool true) (t' := ⟨tu, true, false⟩) rfl (by unfold Tn.In; dsimp only; omega), Box.but (show Box ((wr.alloc (.cells #[.int .i64 0, .int .i64 da, .int .i64 db] 67)).drewN nq) wr.heap.size ⟨0, da, db⟩ from heap_alloc_new wr _) (but_one _ r.t 2 (.bool true)) (fun e => by have e : wr.heap.size = r.t := e; omega)⟩)
            have HSZ := hideIt hsz
            clear hsz
            go_wp2_with (at_builtin; go_must (refine app_lie (E := heE) rfl (.tmp 63) (.tmp 66) 60 69 Try.underlying60 Try.infoHe rfl (by decide) rfl _ xh rfl (own_after R3.out.1.own (After.rfl.alloc _)) ⟨wr.heap.size + 1, 0, none⟩ 1 ⟨0, false⟩ rfl (lit_row (cs := #[.int .i64 (0), .bool (false)]) (by rw [← HSZ.out]; exact heap_alloc_new _ _) rfl rfl) HN.out ?_))
            intro q cap w4 h1 h2 h3 h4
            have HA := hideIt (airt_of (R3.out.1.after (After.rfl.alloc _)) (R3.out.2.but (After.rfl.alloc (.cells #[.int .i64 (0), .bool (false)] 69)) (fun t => t)) h1 h2 (by first | exact h3 | (rw [World.size_alloc, HSZ.out]; exact h3)) h4)
            have c1 := blk_cell HA.out.at1 (i := 4) rfl
            have s1 := blk_soft HA.out.at1 4
            have H7 := hideIt (show ∃ vh, Rt r (w4.setCell ⟨r.t, 4, none⟩ (.slice (some ⟨q, 0, none⟩) (xh.length + 1) cap)) vh ⟨⟨tu, true, false⟩, xL, xg, xh ++ [⟨0, false⟩]⟩ from ⟨_, HA.out.land.1⟩)
            clear h1 h2 h3 h4 
            go_wp2_with fail
            go_roundw
            case rel =>
              obtain ⟨vh5, hr5⟩ := H7.out
              exact ⟨j + 1, ⟨⟨tu, true, false⟩, xL, xg, xh ++ [⟨0, false⟩]⟩, by omega, by go_num, rfl, ⟨_, hr5⟩, HE.out, by have := HL.out; first | omega | (simp; omega)⟩
            case measure => simp [intOf]; omega
          · have eu : useT r.s ⟨tu, false, false⟩ da = ⟨tu + da, false, false⟩ := by
              unfold useT Tn.stop
              simp [show ¬ da < 0 from by omega, hbig]
            have ea : useA r.s ⟨tu, false, false⟩ da = true := by
              unfold useA Tn.stop
              simp [hda]
              omega
            have HE := hideIt (show run r.p r.s (r.D.drop (j + 1)) ⟨⟨tu + da, false, false⟩, xL, xg, xh ++ [⟨0, true⟩]⟩ = R from by rw [hrn]; unfold dst; rw [if_pos rfl, eu, ea])
            clear hrn eu ea
            go_wp2_with fail
            go_quiet (fail)
            have hsz : (((wr.alloc (.cells #[.int .i64 0, .int .i64 da, .int .i64 db] 67)).drewN nq).setCell ⟨r.t, 1, none⟩ (.int .i64 (tu + da))).heap.size = wr.heap.size + 1 := by simp [World.setCell, World.drewN]
            have R3 := hideIt (show Rt r (((wr.alloc (.cells #[.int .i64 0, .int .i64 da, .int .i64 db] 67)).drewN nq).setCell ⟨r.t, 1, none⟩ (.int .i64 (tu + da))) (.slice ah xh.length ch) ⟨⟨tu + da, false, false⟩, xL, xg, xh⟩ ∧ Box (((wr.alloc (.cells #[.int .i64 0, .int .i64 da, .int .i64 db] 67)).drewN nq).setCell ⟨r.t, 1, none⟩ (.int .i64 (tu + da))) wr.heap.size ⟨0, da, db⟩ from ⟨(HR0.out.after (After.draws (After.rfl.alloc _) nq)).set 1 (.int .i64 (tu + da)) (t' := ⟨tu + da, false, false⟩) rfl (by unfold Tn.In; dsimp only; omega), Box.but (show Box ((wr.alloc (.cells #[.int .i64 0, .int .i64 da, .int .i64 db] 67)).drewN nq) wr.heap.size ⟨0, da, db⟩ from heap_alloc_new wr _) (but_one _ r.t 1 (.int .i64 (tu + da))) (fun e => by have e : wr.heap.size = r.t := e; omega)⟩)
            have HSZ := hideIt hsz
            clear hsz
            go_wp2_with (at_builtin; go_must (refine app_lie (E := heE) rfl (.tmp 63) (.tmp 66) 60 69 Try.underlying60 Try.infoHe rfl (by decide) rfl _ xh rfl (own_after R3.out.1.own (After.rfl.alloc _)) ⟨wr.heap.size + 1, 0, none⟩ 1 ⟨0, true⟩ rfl (lit_row (cs := #[.int .i64 (0), .bool (true)]) (by rw [← HSZ.out]; exact heap_alloc_new _ _) rfl rfl) HN.out ?_))
            intro q cap w4 h1 h2 h3 h4
            have HA := hideIt (airt_of (R3.out.1.after (After.rfl.alloc _)) (R3.out.2.but (After.rfl.alloc (.cells #[.int .i64 (0), .bool (true)] 69)) (fun t => t)) h1 h2 (by first | exact h3 | (rw [World.size_alloc, HSZ.out]; exact h3)) h4)
            have c1 := blk_cell HA.out.at1 (i := 4) rfl
            have s1 := blk_soft HA.out.at1 4
            have H7 := hideIt (show ∃ vh, Rt r (w4.setCell ⟨r.t, 4, none⟩ (.slice (some ⟨q, 0, none⟩) (xh.length + 1) cap)) vh ⟨⟨tu + da, false, false⟩, xL, xg, xh ++ [⟨0, true⟩]⟩ from ⟨_, HA.out.land.1⟩)
            clear h1 h2 h3 h4 
            go_wp2_with fail
            go_roundw
            case rel =>
              obtain ⟨vh5, hr5⟩ := H7.out
              exact ⟨j + 1, ⟨⟨tu + da, false, false⟩, xL, xg, xh ++ [⟨0, true⟩]⟩, by omega, by go_num, rfl, ⟨_, hr5⟩, HE.out, by have := HL.out; first | omega | (simp; omega)⟩
            case measure => simp [intOf]; omega
      by_cases k1' : dk = 1
      · subst k1'
        dsimp only at hrn
        rw [if_neg (show ¬ (1 : Int) = 5 by decide)] at hrn
        have HGt := hideIt (XQ.out.1.rget da (getA x.L r.p da).v)
        have HE := hideIt (show run r.p r.s (r.D.drop (j + 1)) ⟨x.t, x.L, (getA x.L r.p da).v, x.h ++ [getA x.L r.p da]⟩ = R from hrn.symm)
        generalize getA x.L r.p da = y at *
        obtain ⟨yv, yi⟩ := y
        dsimp only at HGt HE
        clear hrn k0'
        go_wp2_with fail
        rw [← HW.out, ← HG.out]
        go_wp2_with fail
        refine HGt.out.mono ?_
        rintro e w2 ⟨rfl, r3, b3⟩
        have R2 := hideIt (And.intro r3 (b3 _ _ XQ.out.2))
        clear r3 b3 v0 v1 v2 v3 v4 k0 k1 k2 HGt
        obtain ⟨u0', u1', u2', u3', u4'⟩ := R2.out.1.cells
        have lu := blk_lt R2.out.1.at0
        have R3 := hideIt (show Rt r (w2.alloc (.cells #[.int .i64 yv, .bool yi] 69)) (.slice ah x.h.length ch) ⟨x.t, x.L, yv, x.h⟩ ∧ Box (w2.alloc (.cells #[.int .i64 yv, .bool yi] 69)) gb ⟨1, da, db⟩ from ⟨R2.out.1.after (After.rfl.alloc _), R2.out.2.but (After.rfl.alloc (.cells #[.int .i64 yv, .bool yi] 69)) (fun t => t)⟩)
        clear y0 y1 y2 y3 y4 ly
        go_wp2_with (at_builtin; go_must (refine app_lie (E := heE) rfl (.tmp 79) (.tmp 81) 60 69 Try.underlying60 Try.infoHe rfl (by decide) rfl _ x.h rfl (own_after R3.out.1.own (After.rfl.alloc _)) ⟨w2.heap.size + 1, 0, none⟩ 1 ⟨yv, yi⟩ rfl (lit_row (cs := #[.int .i64 (yv), .bool (yi)]) (by rw [← World.size_alloc]; exact heap_alloc_new _ _) rfl rfl) HN.out ?_))
        intro q cap w4 h1 h2 h3 h4
        have HA := hideIt (airt_of (R3.out.1.after (After.rfl.alloc _)) (R3.out.2.but (After.rfl.alloc (.cells #[.int .i64 (yv), .bool (yi)] 69)) (fun t => t)) h1 h2 (by first | exact h3 | (simp only [World.size_alloc] at h3 ⊢; exact h3)) h4)
        have c1 := blk_cell HA.out.at1 (i := 4) rfl
        have s1 := blk_soft HA.out.at1 4
        have H7 := hideIt (show ∃ vh, Rt r (w4.setCell ⟨r.t, 4, none⟩ (.slice (some ⟨q, 0, none⟩) (x.h.length + 1) cap)) vh ⟨x.t, x.L, yv, x.h ++ [⟨yv, yi⟩]⟩ from ⟨_, HA.out.land.1⟩)
        clear h1 h2 h3 h4 u0' u1' u2' u3' u4'
        go_wp2_with fail
        go_roundw
        case rel =>
          obtain ⟨vh5, hr5⟩ := H7.out
          exact ⟨j + 1, ⟨x.t, x.L, yv, x.h ++ [⟨yv, yi⟩]⟩, by omega, by go_num, rfl, ⟨_, hr5⟩, HE.out, by have := HL.out; first | omega | (simp; omega)⟩
        case measure => simp [intOf]; omega
      by_cases k2' : dk = 2
      · subst k2'
        dsimp only at hrn
        rw [if_neg (show ¬ (2 : Int) = 5 by decide)] at hrn
        have HE := hideIt (show run r.p r.s (r.D.drop (j + 1)) ⟨x.t, putL x.L r.p x.t da db, x.g, x.h ++ [⟨0, putA x.L r.p x.t da⟩]⟩ = R from hrn.symm)
        clear hrn k0' k1'
        go_wp2_with fail
        rw [← HW.out, ← HG.out]
        go_wp2_with fail
        refine region_inv (by kernel_rfl) (Tab.J (⟨14, fun i => [86, 87, 88, 89, 90, 91, 92, 93, 94, 95, 96, 97, 98, 900].getD i 0, fun i => ([some (.pointer (some ⟨r.t, 4, none⟩)), some (.slice ah x.h.length ch), some (Ptr r.d.q), some (.agg (turC r.p x.t (.slice ah x.h.length ch))), some (.pointer (some ⟨gb, 1, none⟩)), some (.int .i64 da), some (.pointer (some ⟨gb, 2, none⟩)), some (.int .i64 db), some (.bool (putA x.L r.p x.t da)), some (.agg #[.int .i64 0, .bool (putA x.L r.p x.t da)]), none, none, some (.pointer (some ⟨r.t, 4, none⟩)), none] : List (Option Value)).getD i none, ChT 3 8 10 11 13 1 r (.slice ah x.h.length ch) x ⟨x.t, putL x.L r.p x.t da db, x.g, x.h⟩ ⟨0, putA x.L r.p x.t da⟩ gb ⟨2, da, db⟩⟩ : Tab) _) ⟨rfl, rfl, fun _ _ => rfl, (fun _ _ _ _ h => by cases h), ChV.start (qt1_start XQ.out)⟩ ?_ ?_
        · exact ⟨inv_field rfl rfl rfl rfl rfl rfl rfl rfl rfl (ChV.keep (neB rfl) (neB rfl) (neB rfl) (neB rfl) (neB rfl) (neB rfl) (neB rfl)) rfl (fun w => fieldTu w _ _),
            inv_loadD rfl rfl rfl rfl rfl rfl rfl rfl rfl (ChV.keep (neB rfl) (neB rfl) (neB rfl) (neB rfl) (neB rfl) (neB rfl) (neB rfl)) rfl (fun L u w hl h => loadHe (blk_cell (cht_t (x := x) (x1 := ⟨x.t, putL x.L r.p x.t da db, x.g, x.h⟩) rfl (.inl hl) h) (i := 4) rfl)),
            inv_move (.inl rfl) rfl rfl rfl rfl rfl rfl rfl rfl (ChV.keep (neB rfl) (neB rfl) (neB rfl) (neB rfl) (neB rfl) (neB rfl) (neB rfl)) rfl,
            inv_loadD rfl rfl rfl rfl rfl rfl rfl rfl rfl (ChV.keep (neB rfl) (neB rfl) (neB rfl) (neB rfl) (neB rfl) (neB rfl) (neB rfl)) rfl (fun L u w hl h => loadTu (cht_t (x := x) (x1 := ⟨x.t, putL x.L r.p x.t da db, x.g, x.h⟩) rfl (.inr hl) h)),
            inv_field rfl rfl rfl rfl rfl rfl rfl rfl rfl (ChV.keep (neB rfl) (neB rfl) (neB rfl) (neB rfl) (neB rfl) (neB rfl) (neB rfl)) rfl (fun w => fieldDe1 w _ _),
            inv_load rfl rfl rfl rfl rfl rfl rfl rfl rfl (ChV.keep (neB rfl) (neB rfl) (neB rfl) (neB rfl) (neB rfl) (neB rfl) (neB rfl)) rfl (fun L u w h => loadI (blk_cell (cht_box h) (i := 1) rfl)),
            inv_field rfl rfl rfl rfl rfl rfl rfl rfl rfl (ChV.keep (neB rfl) (neB rfl) (neB rfl) (neB rfl) (neB rfl) (neB rfl) (neB rfl)) rfl (fun w => fieldDe2 w _ _),
            inv_load rfl rfl rfl rfl rfl rfl rfl rfl rfl (ChV.keep (neB rfl) (neB rfl) (neB rfl) (neB rfl) (neB rfl) (neB rfl) (neB rfl)) rfl (fun L u w h => loadI (blk_cell (cht_box h) (i := 2) rfl)),
            inv_call rfl rfl rfl rfl rfl rfl rfl rfl (enterC Try.func41 (by kernel_rfl) (by kernel_rfl)) (fun a w L hv hd hl h => by
              rw [show (#[Operand.tmp 88, Operand.tmp 89, Operand.tmp 91, Operand.tmp 93] : Array Operand).map a.eval = #[a.eval (.tmp 88), a.eval (.tmp 89), a.eval (.tmp 91), a.eval (.tmp 93)] from by simp, hv (.tmp 88) _ rfl, hv (.tmp 89) _ rfl, hv (.tmp 91) _ rfl, hv (.tmp 93) _ rfl]
              exact (((h.ch.ahead hl).1.1.rput rfl da db)).mono (fun e w3 ⟨e1, h1, h2⟩ => ⟨_, e1, (fun v7 h7 => by cases h7; rfl), ChV.call (neB rfl) (neB rfl) (neB rfl) h hl ⟨h1, h2 _ _ (h.ch.ahead hl).1.2⟩⟩)),
            inv_val (r := fun a => Instr.build 69 #[(1, a.eval (.tmp 94))]) rfl rfl rfl rfl rfl rfl rfl rfl (ChV.keep (neB rfl) (neB rfl) (neB rfl) (neB rfl) (neB rfl) (neB rfl) (neB rfl)) (fun a => by unfold execOp; simp) (fun a W hv => by
              rw [hv (.tmp 94) _ rfl]
              exact run_bHe1 _ W),
            inv_gen (r := fun a => Instr.buildSlice 60 1 #[(0, a.eval (.tmp 95))]) rfl rfl rfl rfl rfl rfl rfl (fun a => by unfold execOp; simp) (fun a W L hv hd hl h => by
              rw [hv (.tmp 95) _ rfl]
              exact ⟨_, _, run_bsHe _ _ W, (fun v7 h7 => by cases h7), ChV.lit (neB rfl) (neB rfl) (neB rfl) h (hd 8 rfl) hl (qt2_of ⟨0, putA x.L r.p x.t da⟩ (h.ch.p1 (hd 8 rfl) hl))⟩),
            inv_any rfl rfl rfl rfl rfl rfl rfl rfl (fun a W L K hv hd hl h hK => by
              obtain ⟨q, eq, hq, hRn, hBox⟩ := h.ch.p2 (hd 10 rfl) hl
              exact wp_lieE (E := heE) (.tmp 87) (.tmp 96) 60 69 Try.underlying60 Try.infoHe rfl (by decide) rfl _ x.h (hv (.tmp 87) _ rfl) hRn.own ⟨q, 0, none⟩ 1 ⟨0, putA x.L r.p x.t da⟩ eq (lit_row hq rfl rfl) HN.out (fun g cap w3 h1 h2 h3 h4 => hK _ _ (ChV.app (neB rfl) (neB rfl) (neB rfl) h (hd 3 rfl) (hd 10 rfl) (hd 1 rfl) hl (airt_of hRn hBox h1 h2 h3 h4)))),
            inv_field rfl rfl rfl rfl rfl rfl rfl rfl rfl (ChV.keep (neB rfl) (neB rfl) (neB rfl) (neB rfl) (neB rfl) (neB rfl) (neB rfl)) rfl (fun w => fieldTu w _ _),
            inv_end rfl rfl rfl rfl rfl rfl (fun L a W hv hd hl h => by
              have h3 := h.ch.p3 (hd 11 rfl) hl
              rw [hv (.tmp 98) _ rfl]
              obtain ⟨q, cap, eq⟩ := h3.slice
              obtain ⟨hRn, hBox⟩ := h3.land
              have c1 := blk_cell h3.at1 (i := 4) rfl
              have s1 := blk_soft h3.at1 4
              refine ⟨W.setCell ⟨r.t, 4, none⟩ (a.eval (.tmp 97)), ?_, ChV.store (neB rfl) (neB rfl) (neB rfl) h (hd 11 rfl) ⟨_, hRn, hBox⟩⟩
              rw [show a.eval (.tmp 97) = _ from eq]
              exact storeHe c1 s1),
            trivial⟩
        · intro a7 w7 L7 hL7 J7
          have e7 := J7.fin hL7 rfl
          have W7 := J7.other
          have h7 := W7.ch.p4 (hL7 13 (Nat.le_of_ble_eq_true rfl))
          clear J7 W7
          rw [e7]
          clear e7
          generalize hv7 : Tab.u _ a7 = U7 at *
          simp only [Tab.puts, List.getD_cons_succ, List.getD_cons_zero, Option.getD_some, Option.getD_none, List.setIfInBounds_toArray, List.set_cons_succ, List.set_cons_zero, List.set_nil]
          clear hv7 hL7
          have H7 := hideIt (show ∃ vh, Rt r w7 vh ⟨x.t, putL x.L r.p x.t da db, x.g, x.h ++ [⟨0, putA x.L r.p x.t da⟩]⟩ from by obtain ⟨vh8, h8, _⟩ := h7; exact ⟨vh8, h8⟩)
          clear h7
          generalize U7 10 = v10
          generalize U7 11 = v11
          generalize U7 _ = v12
          clear U7 a7
          go_wp2_with fail
          go_roundw
          case rel =>
            obtain ⟨vh5, hr5⟩ := H7.out
            exact ⟨j + 1, ⟨x.t, putL x.L r.p x.t da db, x.g, x.h ++ [⟨0, putA x.L r.p x.t da⟩]⟩, by omega, by go_num, rfl, ⟨_, hr5⟩, HE.out, by have := HL.out; first | omega | (simp; omega)⟩
          case measure => simp [intOf]; omega
      by_cases k3' : dk = 3
      · subst k3'
        dsimp only at hrn
        rw [if_neg (show ¬ (3 : Int) = 5 by decide)] at hrn
        have HE := hideIt (show run r.p r.s (r.D.drop (j + 1)) ⟨x.t.fail, x.L, x.g, x.h⟩ = R from hrn.symm)
        have s3 := HSF.out 3
        have H7 := hideIt (show ∃ vh, Rt r ((wr.setCell ⟨r.t, 3, none⟩ (.bool true)).alloc (.cells #[.int .i64 3, .int .i64 da, .int .i64 db] 67)) vh ⟨x.t.fail, x.L, x.g, x.h⟩ from ⟨_, (HR0.out.set 3 (.bool true) (t' := x.t.fail) rfl HR0.out.st).after (After.rfl.alloc _)⟩)
        clear hrn k0' k1' k2' v0 v1 v2 v3 v4 k0 k1 k2 lt
        go_wp2_with fail
        go_roundw
        case rel =>
          obtain ⟨vh5, hr5⟩ := H7.out
          exact ⟨j + 1, ⟨x.t.fail, x.L, x.g, x.h⟩, by omega, by go_num, rfl, ⟨_, hr5⟩, HE.out, by have := HL.out; first | omega | (simp; omega)⟩
        case measure => simp [intOf]; omega
      by_cases k4' : dk = 4
      · subst k4'
        dsimp only at hrn
        rw [if_neg (show ¬ (4 : Int) = 5 by decide)] at hrn
        have HE := hideIt (show run r.p r.s (r.D.drop (j + 1)) ⟨x.t, putL x.L r.p x.t da (wrap64 (x.g + db)), x.g, x.h ++ [⟨0, putA x.L r.p x.t da⟩]⟩ = R from hrn.symm)
        clear hrn k0' k1' k2' k3'
        go_wp2_with fail
        rw [← HW.out, ← HG.out]
        go_wp2_with fail
        refine region_inv (by kernel_rfl) (Tab.J (⟨16, fun i => [104, 105, 106, 107, 108, 109, 110, 111, 112, 113, 114, 115, 116, 117, 118, 900].getD i 0, fun i => ([some (.pointer (some ⟨r.t, 4, none⟩)), some (.slice ah x.h.length ch), some (Ptr r.d.q), some (.agg (turC r.p x.t (.slice ah x.h.length ch))), some (.pointer (some ⟨gb, 1, none⟩)), some (.int .i64 da), some (.int .i64 x.g), some (.pointer (some ⟨gb, 2, none⟩)), some (.int .i64 db), some (.int .i64 (wrap64 (x.g + db))), some (.bool (putA x.L r.p x.t da)), some (.agg #[.int .i64 0, .bool (putA x.L r.p x.t da)]), none, none, some (.pointer (some ⟨r.t, 4, none⟩)), none] : List (Option Value)).getD i none, ChT 3 10 12 13 15 1 r (.slice ah x.h.length ch) x ⟨x.t, putL x.L r.p x.t da (wrap64 (x.g + db)), x.g, x.h⟩ ⟨0, putA x.L r.p x.t da⟩ gb ⟨4, da, db⟩⟩ : Tab) _) ⟨rfl, rfl, fun _ _ => rfl, (fun _ _ _ _ h => by cases h), ChV.start (qt1_start XQ.out)⟩ ?_ ?_
        · exact ⟨inv_field rfl rfl rfl rfl rfl rfl rfl rfl rfl (ChV.keep (neB rfl) (neB rfl) (neB rfl) (neB rfl) (neB rfl) (neB rfl) (neB rfl)) rfl (fun w => fieldTu w _ _),
            inv_loadD rfl rfl rfl rfl rfl rfl rfl rfl rfl (ChV.keep (neB rfl) (neB rfl) (neB rfl) (neB rfl) (neB rfl) (neB rfl) (neB rfl)) rfl (fun L u w hl h => loadHe (blk_cell (cht_t (x := x) (x1 := ⟨x.t, putL x.L r.p x.t da (wrap64 (x.g + db)), x.g, x.h⟩) rfl (.inl hl) h) (i := 4) rfl)),
            inv_move (.inl rfl) rfl rfl rfl rfl rfl rfl rfl rfl (ChV.keep (neB rfl) (neB rfl) (neB rfl) (neB rfl) (neB rfl) (neB rfl) (neB rfl)) rfl,
            inv_loadD rfl rfl rfl rfl rfl rfl rfl rfl rfl (ChV.keep (neB rfl) (neB rfl) (neB rfl) (neB rfl) (neB rfl) (neB rfl) (neB rfl)) rfl (fun L u w hl h => loadTu (cht_t (x := x) (x1 := ⟨x.t, putL x.L r.p x.t da (wrap64 (x.g + db)), x.g, x.h⟩) rfl (.inr hl) h)),
            inv_field rfl rfl rfl rfl rfl rfl rfl rfl rfl (ChV.keep (neB rfl) (neB rfl) (neB rfl) (neB rfl) (neB rfl) (neB rfl) (neB rfl)) rfl (fun w => fieldDe1 w _ _),
            inv_load rfl rfl rfl rfl rfl rfl rfl rfl rfl (ChV.keep (neB rfl) (neB rfl) (neB rfl) (neB rfl) (neB rfl) (neB rfl) (neB rfl)) rfl (fun L u w h => loadI (blk_cell (cht_box h) (i := 1) rfl)),
            inv_move (.inl rfl) rfl rfl rfl rfl rfl rfl rfl rfl (ChV.keep (neB rfl) (neB rfl) (neB rfl) (neB rfl) (neB rfl) (neB rfl) (neB rfl)) rfl,
            inv_field rfl rfl rfl rfl rfl rfl rfl rfl rfl (ChV.keep (neB rfl) (neB rfl) (neB rfl) (neB rfl) (neB rfl) (neB rfl) (neB rfl)) rfl (fun w => fieldDe2 w _ _),
            inv_load rfl rfl rfl rfl rfl rfl rfl rfl rfl (ChV.keep (neB rfl) (neB rfl) (neB rfl) (neB rfl) (neB rfl) (neB rfl) (neB rfl)) rfl (fun L u w h => loadI (blk_cell (cht_box h) (i := 2) rfl)),
            inv_bin rfl rfl rfl rfl rfl rfl rfl rfl rfl (ChV.keep (neB rfl) (neB rfl) (neB rfl) (neB rfl) (neB rfl) (neB rfl) (neB rfl)) rfl rfl (fun w => by simp [go_sem, eqGuard, IntWalk.i64_left]),
            inv_call rfl rfl rfl rfl rfl rfl rfl rfl (enterC Try.func41 (by kernel_rfl) (by kernel_rfl)) (fun a w L hv hd hl h => by
              rw [show (#[Operand.tmp 106, Operand.tmp 107, Operand.tmp 109, Operand.tmp 113] : Array Operand).map a.eval = #[a.eval (.tmp 106), a.eval (.tmp 107), a.eval (.tmp 109), a.eval (.tmp 113)] from by simp, hv (.tmp 106) _ rfl, hv (.tmp 107) _ rfl, hv (.tmp 109) _ rfl, hv (.tmp 113) _ rfl]
              exact (((h.ch.ahead hl).1.1.rput rfl da (wrap64 (x.g + db)))).mono (fun e w3 ⟨e1, h1, h2⟩ => ⟨_, e1, (fun v7 h7 => by cases h7; rfl), ChV.call (neB rfl) (neB rfl) (neB rfl) h hl ⟨h1, h2 _ _ (h.ch.ahead hl).1.2⟩⟩)),
            inv_val (r := fun a => Instr.build 69 #[(1, a.eval (.tmp 114))]) rfl rfl rfl rfl rfl rfl rfl rfl (ChV.keep (neB rfl) (neB rfl) (neB rfl) (neB rfl) (neB rfl) (neB rfl) (neB rfl)) (fun a => by unfold execOp; simp) (fun a W hv => by
              rw [hv (.tmp 114) _ rfl]
              exact run_bHe1 _ W),
            inv_gen (r := fun a => Instr.buildSlice 60 1 #[(0, a.eval (.tmp 115))]) rfl rfl rfl rfl rfl rfl rfl (fun a => by unfold execOp; simp) (fun a W L hv hd hl h => by
              rw [hv (.tmp 115) _ rfl]
              exact ⟨_, _, run_bsHe _ _ W, (fun v7 h7 => by cases h7), ChV.lit (neB rfl) (neB rfl) (neB rfl) h (hd 10 rfl) hl (qt2_of ⟨0, putA x.L r.p x.t da⟩ (h.ch.p1 (hd 10 rfl) hl))⟩),
            inv_any rfl rfl rfl rfl rfl rfl rfl rfl (fun a W L K hv hd hl h hK => by
              obtain ⟨q, eq, hq, hRn, hBox⟩ := h.ch.p2 (hd 12 rfl) hl
              exact wp_lieE (E := heE) (.tmp 105) (.tmp 116) 60 69 Try.underlying60 Try.infoHe rfl (by decide) rfl _ x.h (hv (.tmp 105) _ rfl) hRn.own ⟨q, 0, none⟩ 1 ⟨0, putA x.L r.p x.t da⟩ eq (lit_row hq rfl rfl) HN.out (fun g cap w3 h1 h2 h3 h4 => hK _ _ (ChV.app (neB rfl) (neB rfl) (neB rfl) h (hd 3 rfl) (hd 12 rfl) (hd 1 rfl) hl (airt_of hRn hBox h1 h2 h3 h4)))),
            inv_field rfl rfl rfl rfl rfl rfl rfl rfl rfl (ChV.keep (neB rfl) (neB rfl) (neB rfl) (neB rfl) (neB rfl) (neB rfl) (neB rfl)) rfl (fun w => fieldTu w _ _),
            inv_end rfl rfl rfl rfl rfl rfl (fun L a W hv hd hl h => by
              have h3 := h.ch.p3 (hd 13 rfl) hl
              rw [hv (.tmp 118) _ rfl]
              obtain ⟨q, cap, eq⟩ := h3.slice
              obtain ⟨hRn, hBox⟩ := h3.land
              have c1 := blk_cell h3.at1 (i := 4) rfl
              have s1 := blk_soft h3.at1 4
              refine ⟨W.setCell ⟨r.t, 4, none⟩ (a.eval (.tmp 117)), ?_, ChV.store (neB rfl) (neB rfl) (neB rfl) h (hd 13 rfl) ⟨_, hRn, hBox⟩⟩
              rw [show a.eval (.tmp 117) = _ from eq]
              exact storeHe c1 s1),
            trivial⟩
        · intro a7 w7 L7 hL7 J7
          have e7 := J7.fin hL7 rfl
          have W7 := J7.other
          have h7 := W7.ch.p4 (hL7 15 (Nat.le_of_ble_eq_true rfl))
          clear J7 W7
          rw [e7]
          clear e7
          generalize hv7 : Tab.u _ a7 = U7 at *
          simp only [Tab.puts, List.getD_cons_succ, List.getD_cons_zero, Option.getD_some, Option.getD_none, List.setIfInBounds_toArray, List.set_cons_succ, List.set_cons_zero, List.set_nil]
          clear hv7 hL7
          have H7 := hideIt (show ∃ vh, Rt r w7 vh ⟨x.t, putL x.L r.p x.t da (wrap64 (x.g + db)), x.g, x.h ++ [⟨0, putA x.L r.p x.t da⟩]⟩ from by obtain ⟨vh8, h8, _⟩ := h7; exact ⟨vh8, h8⟩)
          clear h7
          generalize U7 12 = v10
          generalize U7 13 = v11
          generalize U7 _ = v12
          clear U7 a7
          go_wp2_with fail
          go_roundw
          case rel =>
            obtain ⟨vh5, hr5⟩ := H7.out
            exact ⟨j + 1, ⟨x.t, putL x.L r.p x.t da (wrap64 (x.g + db)), x.g, x.h ++ [⟨0, putA x.L r.p x.t da⟩]⟩, by omega, by go_num, rfl, ⟨_, hr5⟩, HE.out, by have := HL.out; first | omega | (simp; omega)⟩
          case measure => simp [intOf]; omega
      by_cases k5' : dk = 5
      · subst k5'
        dsimp only at hrn
        rw [if_pos rfl] at hrn
        have HS := hideIt (show Rt r (W.setCell ⟨r.t, 3, none⟩ (.bool true)) (.slice ah x.h.length ch) ⟨x.t.fail, x.L, x.g, x.h⟩ from XQ.out.1.set 3 (.bool true) rfl XQ.out.1.st)
        have s3 := HSF.out 3
        obtain ⟨c0, c1, c2, c3, c4, hbt⟩ := XB.out
        have q0 := blk_cell hbt (i := 0) rfl
        have q1 := blk_cell hbt (i := 1) rfl
        have q2 := blk_cell hbt (i := 2) rfl
        have q3 := blk_cell hbt (i := 3) rfl
        have q4 := blk_cell hbt (i := 4) rfl
        have lq := blk_lt hbt
        have f0 := blk_soft hbt 0
        have f1 := blk_soft hbt 1
        have f2 := blk_soft hbt 2
        have f3 := blk_soft hbt 3
        have f4 := blk_soft hbt 4
        have n1 := XQ.out.1.ne
        have n2 := Ne.symm n1
        clear k0' k1' k2' k3' k4' v0 v1 v2 v3 v4 k0 k1 k2 lt hbt
        have HS := hideIt (HR0.out.set 3 (.bool true) (t' := x.t.fail) rfl HR0.out.st)
        go_wp2_with fail
        obtain ⟨g0, g1, g2, g3, g4, hg⟩ := HS.out.bt
        obtain ⟨h5, b5⟩ := five hg (.int .i64 r.p) (.int .i64 x.t.u) (.bool x.t.ov) (.bool true) (.slice ah x.h.length ch)
        have a5 := (After.rfl (w := (((((((wr.setCell ⟨r.t, 3, none⟩ (.bool true))).setCell ⟨r.b, 0, none⟩ (.int .i64 r.p)).setCell ⟨r.b, 1, none⟩ (.int .i64 x.t.u)).setCell ⟨r.b, 2, none⟩ (.bool x.t.ov)).setCell ⟨r.b, 3, none⟩ (.bool true)).setCell ⟨r.b, 4, none⟩ (.slice ah x.h.length ch)))).alloc (.cells #[.int .i64 5, .int .i64 da, .int .i64 db] 67)
        refine ret_cell Try.results33 rfl ((a5.block r.b (blk_lt h5) (fun t => t)).trans h5) Try.underlying92 rfl Try.infoTurn rfl ?_
        exact turnedT_of HS.out (b5.then a5 (fun _ _ t => t.elim))
      · dsimp only at hrn
        rw [if_neg k5'] at hrn
        have ed : dst r.p r.s ⟨dk, da, db⟩ x = x := by unfold dst; simp [k0', k1', k2', k3', k4']
        rw [ed] at hrn
        have HE := hideIt (show run r.p r.s (r.D.drop (j + 1)) x = R from hrn.symm)
        have e0' : (dk == 0) = false := by simp [k0']
        have e1' : (dk == 1) = false := by simp [k1']
        have e2' : (dk == 2) = false := by simp [k2']
        have e3' : (dk == 3) = false := by simp [k3']
        have e4' : (dk == 4) = false := by simp [k4']
        have e5' : (dk == 5) = false := by simp [k5']
        have H7 := hideIt (show ∃ vh, Rt r W vh x from ⟨_, XQ.out.1⟩)
        clear hrn ed k0' k1' k2' k3' k4' k5'
        go_wp2_with fail
        rw [← HW.out]
        go_roundw
        case rel =>
          obtain ⟨vh5, hr5⟩ := H7.out
          exact ⟨j + 1, x, by omega, by go_num, rfl, ⟨_, hr5⟩, HE.out, by have := HL.out; first | omega | (simp; omega)⟩
        case measure => simp [intOf]; omega
    · have i1 : ¬ (j : Int) < (r.D.length : Int) := by omega
      rw [run_end r.p r.s (by omega)] at hrun
      subst hrun
      have HR := hideIt hr
      obtain ⟨y0, y1, y2, y3, y4⟩ := hr.cells
      have ly := blk_lt hr.at0
      obtain ⟨c0, c1, c2, c3, c4, hbt⟩ := hr.bt
      have q0 := blk_cell hbt (i := 0) rfl
      have q1 := blk_cell hbt (i := 1) rfl
      have q2 := blk_cell hbt (i := 2) rfl
      have q3 := blk_cell hbt (i := 3) rfl
      have q4 := blk_cell hbt (i := 4) rfl
      have lq := blk_lt hbt
      have f0 := blk_soft hbt 0
      have f1 := blk_soft hbt 1
      have f2 := blk_soft hbt 2
      have f3 := blk_soft hbt 3
      have f4 := blk_soft hbt 4
      have n1 := hr.ne
      have n2 := Ne.symm n1
      clear hr hbt
      go_wp2_with fail
      obtain ⟨g0, g1, g2, g3, g4, hg⟩ := HR.out.bt
      obtain ⟨h5, b5⟩ := five hg (.int .i64 r.p) (.int .i64 x.t.u) (.bool x.t.ov) (.bool x.t.fa) (.slice ah x.h.length ch)
      exact ret_cell Try.results33 rfl h5 Try.underlying92 rfl Try.infoTurn rfl (turnedT_of HR.out b5)
end Go.Proofs.Ytkjjjibglaffnaa
