/-
  The document's Tick.
-/
import Derived.Test.YtkjjjibglaffnaaRxG
namespace Go.Proofs.Ytkjjjibglaffnaa
open Go.RowKit
set_option maxRecDepth 8000
/-- Deeds of a tick, by partition. -/
def dsT (t : Tc) : Nat → List De := fun i => (t.l.map Dr.l).getD i []
theorem dsT_at {t : Tc} {i : Nat} {e : Dr} (h : t.l[i]? = some e) : dsT t i = e.l := by
  unfold dsT
  rw [List.getD_eq_getElem?_getD, List.getElem?_map, h]; rfl
/-- A tick that is handed in lies in no block of the document's exec. -/
def Tc.Off (d : Rq) (t : Tc) : Prop := (∀ z, t.a = some z → 0 < t.l.length → ¬ d.In z.block) ∧ ∀ e ∈ t.l, ∀ z, e.a = some z → 0 < e.l.length → ¬ d.In z.block
theorem rtick_no {w : World} {d : Rq} {x : Xp} (h : Rx w d x) {ta : Option Addr} {n tc : Nat} (hn : n ≠ x.st.length) : Calls Try.prog 22 #[Ptr d.q, .slice ta n tc] w fun e w' => e = .returned (.tuple #[.slice none 0 0, .int .i64 2]) ∧ w' = w := by
  have c1 : w.cell? ⟨d.q, 1, none⟩ = some (.slice d.sa x.st.length d.sc) := blk_cell h.at0 (i := 1) rfl
  have lq := blk_lt h.at0
  have hne : ((n : Int) != (x.st.length : Int)) = true := by simp; omega
  clear h hn
  go_enter Try.func22, Try.ntmps22
  go_wp2_with fail
  go_ret2
  exact ⟨rfl, rfl⟩
theorem cell_but {S : Nat → Prop} {w w' : World} (b : But S w w') {g o : Nat} {v : Value} (h1 : g < w.heap.size) (h2 : ¬ S g) (h3 : w.cell? ⟨g, o, none⟩ = some v) : w'.cell? ⟨g, o, none⟩ = some v := (b.cell h1 h2 o).trans h3
theorem skel_len {L L' : List Lk} (h : skel L' = skel L) : L'.length = L.length := by
  have := congrArg List.length h
  unfold skel at this
  rwa [List.length_map, List.length_map] at this
/-- The next minor frame. -/
theorem Rx.step {w : World} {d : Rq} {x : Xp} (h : Rx w d x) : Rx (w.setCell ⟨d.q, 5, none⟩ (.int .i64 (x.next.at_ : Int))) d x.next ∧ But d.In w (w.setCell ⟨d.q, 5, none⟩ (.int .i64 (x.next.at_ : Int))) := by
  have b1 := but_one w d.q 5 (.int .i64 (x.next.at_ : Int))
  have b := b1.mono (T := d.In) (fun i _ e => .inl e)
  obtain ⟨n1, n2, n3⟩ := h.ne
  have hR : ∀ z, d.Row x z → ¬ d.In z := h.dr
  exact ⟨⟨blk_put h.at0 5 _, h.fr, h.rf.but b (fun z hz hn s => hR _ (.inl ⟨z, hz, hn, rfl⟩) s), fun f hf => (h.fw f hf).but b (fun z hz hn s => hR _ (.inr (.inl ⟨f, hf, z, hz, hn, rfl⟩)) s), h.rs.but b (fun z hz hn s => hR _ (.inr (.inr (.inl ⟨z, hz, hn, rfl⟩))) s), h.rl.but b (fun z hz hn s => hR _ (.inr (.inr (.inr ⟨z, hz, hn, rfl⟩))) s), (b1.block _ (blk_lt h.bh) (fun e => n1 e.symm)).trans h.bh, (b1.block _ (blk_lt h.bv) (fun e => n2 e.symm)).trans h.bv, h.ne, h.dr, next_ok h.ok⟩, b⟩
/-- What the document's Tick answers, and leaves behind. -/
def TickedR (w : World) (d : Rq) (x : Xp) (DS : Nat → List De) (e : Ending) (w' : World) : Prop :=
  ∃ v Y, e = .returned (.tuple #[v, .int .i64 0]) ∧ ORow awE 92 w' w.heap.size v Y ∧ (∀ y ∈ Y, ORow heE 69 w' w.heap.size (.slice y.a y.h.length y.c) y.h) ∧ Y.map Aw.ad = (frd x.st DS (x.fr.getD x.at_ []) x.L).1 ∧ Rx w' d { x.next with L := (frd x.st DS (x.fr.getD x.at_ []) x.L).2 } ∧ But d.In w w'
/-- The frame's turns, up to the j-th one. -/
def Rg (w0 : World) (d : Rq) (x : Xp) (DS : Nat → List De) (ps : List Int) (j : Nat) (vo : Value) (w : World) : Prop :=
  ∃ Y L, Rm w0 d x w vo Y L ∧ (Y.map Aw.ad ++ (frd x.st DS (ps.drop j) L).1, (frd x.st DS (ps.drop j) L).2) = frd x.st DS ps x.L ∧ Y.length = j ∧ skel L = skel x.L
set_option maxHeartbeats 4000000 in
theorem rtick_any {w : World} {d : Rq} {x : Xp} (h : Rx w d x) {t : Tc} {N : Nat} (ht : t.Fits w N) (hN : N ≤ 1000000000) (hoff : t.Off d) (hn : t.l.length = x.st.length) :
    Calls Try.prog 22 #[Ptr d.q, .slice t.a t.l.length t.c] w (TickedR w d x (dsT t)) := by
  have ok := h.ok
  have hfl : d.fs.length = x.fr.length := by rw [← h.fr, List.length_map]
  have ha : x.at_ < d.fs.length := by rw [hfl]; exact ok.a1
  obtain ⟨fb, fo, f, efa, hfb, hff, f0⟩ := fw_at h.rf ha
  have hfr : x.fr[x.at_]? = some f.l := by rw [← h.fr, List.getElem?_map, hff]; rfl
  have hgd : x.fr.getD x.at_ [] = f.l := by rw [List.getD_eq_getElem?_getD, hfr]; rfl
  obtain ⟨hf8, hfin⟩ := ok.fs f.l (List.mem_of_getElem? hfr)
  have c0 : w.cell? ⟨d.q, 0, none⟩ = some (.slice d.fa d.fs.length d.fc) := blk_cell h.at0 (i := 0) rfl
  have c1 : w.cell? ⟨d.q, 1, none⟩ = some (.slice d.sa x.st.length d.sc) := blk_cell h.at0 (i := 1) rfl
  have c5 : w.cell? ⟨d.q, 5, none⟩ = some (.int .i64 (x.at_ : Int)) := blk_cell h.at0 (i := 5) rfl
  have lq := blk_lt h.at0
  rw [efa] at c0
  have hne : ((t.l.length : Int) != (x.st.length : Int)) = false := by rw [hn]; simp
  have i1 : (x.at_ : Int) < (d.fs.length : Int) := by omega
  have i2 : (f.l.length : Int) ≤ 8 := by omega
  obtain ⟨n, hnn⟩ : ∃ n, n = t.l.length := ⟨_, rfl⟩
  rw [← hnn] at hne ⊢
  have i3 : (n : Int) ≤ 8 := by rw [hnn, hn]; have := ok.s2; omega
  have HH := hideIt (And.intro h (And.intro ht (And.intro hoff (And.intro hn (And.intro hff (And.intro hfin (And.intro hgd (And.intro efa hnn))))))))
  have H1 := hideIt hne
  clear h ht hoff hn hff hfin hgd hnn hfl ha ok hfr hf8
  go_enter Try.func22, Try.ntmps22
  go_wp2_with fail
  go_region
  obtain ⟨nq, hnq⟩ : ∃ nq : Nat, nq = 1 := ⟨_, rfl⟩
  clear c0 c1 c5 f0 hfb hne lq
  go_wp2_with fail
  obtain ⟨h, ht, hoff, hn, hff, hfin, hgd, efa, hnn⟩ := HH.out
  obtain ⟨F, hF⟩ : ∃ F, F = frd x.st (dsT t) f.l x.L := ⟨_, rfl⟩
  obtain ⟨ta, tc, tl⟩ := t
  obtain ⟨fA, fC, fL⟩ := f
  dsimp only at *
  have HF := hideIt hF
  have HQ := hideIt (And.intro h (And.intro ht (And.intro hoff (And.intro hn (And.intro hff (And.intro hfin (And.intro hgd (And.intro efa hnn))))))))
  clear h ht hoff hn hff hfin hgd efa hnn hF HH
  go_loopw [7, 8] (fun vo iv wr => ∃ j : Nat, j ≤ fL.length ∧ iv = .int .i64 j ∧ Rg w d x (dsT ⟨ta, tc, tl⟩) fL j vo wr) (fun _ iv _ => fL.length - (intOf iv).toNat)
  case atStart => exact ⟨0, Nat.zero_le _, rfl, [], x.L, ⟨HQ.out.1.after (But.drew But.rfl), orow_nil _ _ _ _, fun y hy => (by cases hy), (After.but (But.drew But.rfl)), fun k hk => HQ.out.1.lt k hk⟩, rfl, rfl, rfl⟩
  case round =>
    obtain ⟨j, hj, rfl, Y, L, m, hrn, hY, hsk⟩ := hrel
    by_cases hjn : j < fL.length
    · have i4 : (j : Int) < (fL.length : Int) := by omega
      obtain ⟨h, ht, hoff, hn, hff, hfin, hgd, efa, hnn⟩ := HQ.out
      have hfm : ⟨fA, fC, fL⟩ ∈ d.fs := List.mem_of_getElem? hff
      obtain ⟨fb2, fo2, p, rfl, hb2, hp, g0⟩ := in_at (h.fw ⟨fA, fC, fL⟩ hfm) hjn
      obtain ⟨p0, pn⟩ := hfin p (List.mem_of_getElem? hp)
      have i5 : p = (p.toNat : Int) := by omega
      have i6 : p < (n : Int) := by omega
      obtain ⟨tb, to, e, rfl, htb, he, t0⟩ := dr_at ht.1 (show p.toNat < tl.length by omega)
      have hps : x.st[p.toNat]? = some (x.st[p.toNat]'(by omega)) := List.getElem?_eq_getElem _
      generalize x.st[p.toNat]'(by omega) = sp at hps
      obtain ⟨fe1, fe2, fe3⟩ := ht.2.2 e (List.mem_of_getElem? he)
      have hds : dsT ⟨some ⟨tb, to, none⟩, tc, tl⟩ p.toNat = e.l := dsT_at he
      obtain ⟨R, hR⟩ : ∃ R, R = tnOf p sp e.l L [] := ⟨_, rfl⟩
      have HC := hideIt (show fb2 < w.heap.size ∧ ¬ d.In fb2 ∧ w.cell? ⟨fb2, fo2 + j, none⟩ = some (.int .i64 p) from ⟨hb2, h.dr _ (.inr (.inl ⟨_, hfm, _, rfl, by dsimp only; omega, rfl⟩)), g0⟩)
      have HD := hideIt (show tb < w.heap.size ∧ ¬ d.In tb ∧ w.cell? ⟨tb, to + p.toNat, none⟩ = some (.slice e.a e.l.length e.c) from ⟨htb, hoff.1 _ rfl (by dsimp only; omega), t0⟩)
      have HT := hideIt (And.intro p0 (And.intro hps (And.intro fe1 (And.intro (hoff.2 e (List.mem_of_getElem? he)) (And.intro (show e.l.length ≤ 1000000000 by omega) fe3)))))
      have HY := hideIt (show Y.length ≤ 16 by have := (HQ.out.1.ok.fs fL (by rw [← HQ.out.1.fr]; exact List.mem_map.2 ⟨_, hfm, rfl⟩)).1; omega)
      have hfr := frd_at x.st (dsT ⟨some ⟨tb, to, none⟩, tc, tl⟩) hp hps L
      rw [hds, ← hR] at hfr
      rw [hfr] at hrn
      have HE := hideIt (And.intro hrn (And.intro hY (show skel R.L = skel x.L by rw [hR]; unfold tnOf; rw [run_skel]; exact hsk)))
      obtain ⟨av, cv, ev, _⟩ := m.own.row
      subst ev
      have XM := hideIt m
      have HRR := hideIt hR
      clear h ht hoff hn hff hfin hgd efa hnn hfm hb2 hp p0 pn htb he t0 g0 hps fe1 fe2 fe3 hds hfr hrn hY hsk m hR
      go_wp2_with fail
      refine region_inv (by kernel_rfl) (Tab.J (⟨17, fun i => [33, 34, 35, 36, 37, 38, 39, 40, 41, 42, 43, 44, 45, 46, 47, 48, 7].getD i 0, fun i => ([some (.slice av Y.length cv), some (Ptr d.q), some (.slice (some ⟨fb2, fo2, none⟩) fL.length fC), some (.int .i64 (j : Int)), some (.pointer (some ⟨fb2, fo2 + j, none⟩)), some (.int .i64 p), some (.slice (some ⟨tb, to, none⟩) n tc), some (.slice (some ⟨fb2, fo2, none⟩) fL.length fC), some (.int .i64 (j : Int)), some (.pointer (some ⟨fb2, fo2 + j, none⟩)), some (.int .i64 p), some (.pointer (some ⟨tb, to + p.toNat, none⟩)), some (.slice e.a e.l.length e.c), none, none, none, none] : List (Option Value)).getD i none, ChG 13 14 15 16 0 w d x (.slice av Y.length cv) Y L p R⟩ : Tab) _) ⟨rfl, rfl, fun _ _ => rfl, (fun _ _ _ _ h => by cases h), ChX.start (XM.out.after (But.drew But.rfl)) rfl⟩ ?_ ?_
      · exact ⟨inv_gen (r := fun a => pure (a.eval (.tmp 7))) rfl rfl rfl rfl rfl rfl rfl (fun a => by unfold execOp; simp) (fun a W L hv hd hl h => by
            have hz := fls h.q1 (fls h.ch.i4 hl)
            have e7 : a.eval (.tmp 7) = .slice av Y.length cv := h.q0 hz
            rw [e7]
            exact ⟨_, W, rfl, (fun v7 h7 => by cases h7; rfl), ChX.keep (neB rfl) (neB rfl) (neB rfl) (neB rfl) (neB rfl) (neB rfl) (neB rfl) (neB rfl) (neB rfl) _ _ _ h⟩),
          inv_move (.inl rfl) rfl rfl rfl rfl rfl rfl rfl rfl (ChX.keep (neB rfl) (neB rfl) (neB rfl) (neB rfl) (neB rfl) (neB rfl) (neB rfl) (neB rfl) (neB rfl)) rfl,
          inv_move (.inl rfl) rfl rfl rfl rfl rfl rfl rfl rfl (ChX.keep (neB rfl) (neB rfl) (neB rfl) (neB rfl) (neB rfl) (neB rfl) (neB rfl) (neB rfl) (neB rfl)) rfl,
          inv_move (.inl rfl) rfl rfl rfl rfl rfl rfl rfl rfl (ChX.keep (neB rfl) (neB rfl) (neB rfl) (neB rfl) (neB rfl) (neB rfl) (neB rfl) (neB rfl) (neB rfl)) rfl,
          inv_index rfl rfl rfl rfl rfl rfl rfl rfl rfl (ChX.keep (neB rfl) (neB rfl) (neB rfl) (neB rfl) (neB rfl) (neB rfl) (neB rfl) (neB rfl) (neB rfl)) rfl rfl (fun w => indexIn w _ _ _ _ rfl i4),
          inv_load rfl rfl rfl rfl rfl rfl rfl rfl rfl (ChX.keep (neB rfl) (neB rfl) (neB rfl) (neB rfl) (neB rfl) (neB rfl) (neB rfl) (neB rfl) (neB rfl)) rfl (fun L u w h => loadIn (cell_but (chg_go h) HC.out.1 HC.out.2.1 HC.out.2.2)),
          inv_move (.inl rfl) rfl rfl rfl rfl rfl rfl rfl rfl (ChX.keep (neB rfl) (neB rfl) (neB rfl) (neB rfl) (neB rfl) (neB rfl) (neB rfl) (neB rfl) (neB rfl)) rfl,
          inv_move (.inl rfl) rfl rfl rfl rfl rfl rfl rfl rfl (ChX.keep (neB rfl) (neB rfl) (neB rfl) (neB rfl) (neB rfl) (neB rfl) (neB rfl) (neB rfl) (neB rfl)) rfl,
          inv_move (.inl rfl) rfl rfl rfl rfl rfl rfl rfl rfl (ChX.keep (neB rfl) (neB rfl) (neB rfl) (neB rfl) (neB rfl) (neB rfl) (neB rfl) (neB rfl) (neB rfl)) rfl,
          inv_index rfl rfl rfl rfl rfl rfl rfl rfl rfl (ChX.keep (neB rfl) (neB rfl) (neB rfl) (neB rfl) (neB rfl) (neB rfl) (neB rfl) (neB rfl) (neB rfl)) rfl rfl (fun w => indexIn w _ _ _ _ rfl i4),
          inv_load rfl rfl rfl rfl rfl rfl rfl rfl rfl (ChX.keep (neB rfl) (neB rfl) (neB rfl) (neB rfl) (neB rfl) (neB rfl) (neB rfl) (neB rfl) (neB rfl)) rfl (fun L u w h => loadIn (cell_but (chg_go h) HC.out.1 HC.out.2.1 HC.out.2.2)),
          inv_index rfl rfl rfl rfl rfl rfl rfl rfl rfl (ChX.keep (neB rfl) (neB rfl) (neB rfl) (neB rfl) (neB rfl) (neB rfl) (neB rfl) (neB rfl) (neB rfl)) rfl rfl (fun w => indexDl w _ _ _ _ (show p = (p.toNat : Int) from i5) i6),
          inv_load rfl rfl rfl rfl rfl rfl rfl rfl rfl (ChX.keep (neB rfl) (neB rfl) (neB rfl) (neB rfl) (neB rfl) (neB rfl) (neB rfl) (neB rfl) (neB rfl)) rfl (fun L u w h => loadDl (cell_but (chg_go h) HD.out.1 HD.out.2.1 HD.out.2.2)),
          inv_call rfl rfl rfl rfl rfl rfl rfl rfl (enterC Try.func33 (by kernel_rfl) (by kernel_rfl)) (fun a w9 L hv hd hl h => by
            rw [show (#[Operand.tmp 34, Operand.tmp 38, Operand.tmp 45] : Array Operand).map a.eval = #[a.eval (.tmp 34), a.eval (.tmp 38), a.eval (.tmp 45)] from by simp, hv (.tmp 34) _ rfl, hv (.tmp 38) _ rfl, hv (.tmp 45) _ rfl]
            have m := (h.ch.ahead hl).1
            refine (turn_any m.ex HT.out.1 HT.out.2.1 (HT.out.2.2.1.but m.go HT.out.2.2.2.1) HT.out.2.2.2.1 HT.out.2.2.2.2.1 HT.out.2.2.2.2.2).mono ?_
            rintro e9 w3 ⟨vh, rfl, oh, lh, ex3, b3⟩
            dsimp only at oh ex3
            rw [← HRR.out] at oh ex3
            rw [← HRR.out]
            exact ⟨_, rfl, (fun v7 h7 => by cases h7), ChX.call (neB rfl) (neB rfl) (neB rfl) (neB rfl) (neB rfl) h hl ⟨vh, rfl, m.turn ex3 b3 (skel_len (by rw [HRR.out]; unfold tnOf; rw [run_skel])), own_base oh (fun k hk => Nat.le_trans m.go.size (lh k hk))⟩⟩),
          inv_gen (r := fun a => Instr.buildSlice 87 1 #[(0, a.eval (.tmp 46))]) rfl rfl rfl rfl rfl rfl rfl (fun a => by unfold execOp; simp) (fun a W L hv hd hl h => by
            obtain ⟨vh, ev, m, oh⟩ := h.ch.p1 (hd 13 rfl) hl
            obtain ⟨ah, ch, eh, _⟩ := oh.row
            subst eh
            have aL := After.rfl (w := W) |>.alloc (.cells (awE.enc ⟨p, R.t, ah, ch, R.h⟩).toArray 92)
            rw [show a.eval (.tmp 46) = _ from ev]
            exact ⟨_, _, run_bsTu ⟨p, R.t, ah, ch, R.h⟩ W, (fun v7 h7 => by cases h7), ChX.lit (neB rfl) (neB rfl) (neB rfl) (neB rfl) (neB rfl) h (hd 13 rfl) hl ⟨_, ⟨p, R.t, ah, ch, R.h⟩, rfl, rfl, heap_alloc_new W _, m.after aL, own_after oh aL⟩⟩),
          inv_any rfl rfl rfl rfl rfl rfl rfl rfl (fun a W L K hv hd hl h hK => by
            obtain ⟨q, y, eq, ey, hq, m, oy⟩ := h.ch.p2 (hd 14 rfl) hl
            exact wp_appE (E := awE) Try.underlying87 Try.infoAw rfl (.tmp 33) (.tmp 47) rfl (hv (.tmp 33) _ rfl) m.own eq (lit_row (xs := [y]) hq (by simp [Enc.flat]) rfl) (by have := HY.out; unfold maxLen; omega) (by have := HY.out; omega) m.go.size (fun v3 w3 h1 h2 => hK _ _ (ChX.app (neB rfl) (neB rfl) (neB rfl) (neB rfl) (neB rfl) h (hd 14 rfl) (hd 0 rfl) hl ⟨y, ey, m.app oy h1 h2⟩))),
          inv_any rfl rfl rfl rfl rfl rfl rfl rfl (fun a w9 L K hv hd hl y hK => pw_assign rfl (show a.eval (.tmp 48) = _ from rfl) (hK _ _ (y.last (neB rfl) (neB rfl) (neB rfl) (neB rfl) (neB rfl) (neB rfl) (neB rfl) (hd 15 rfl) rfl))),
          trivial⟩
      · intro a7 w7 L7 hL7 J7
        have e7 := J7.fin hL7 rfl
        have W7 := J7.other
        have h7 := W7.ch.p3 (hL7 15 (Nat.le_of_ble_eq_true rfl)) W7.no
        have h8 := W7.q2 (hL7 16 (Nat.le_of_ble_eq_true rfl))
        clear J7 W7
        rw [e7]
        clear e7
        generalize hv7 : Tab.u _ a7 = U7 at *
        simp only [Tab.puts, List.getD_cons_succ, List.getD_cons_zero, Option.getD_some, Option.getD_none, List.setIfInBounds_toArray, List.set_cons_succ, List.set_cons_zero]
        clear hv7 hL7
        obtain ⟨y, ey, m⟩ := h7
        rw [h8]
        have H7 := hideIt (And.intro ey m)
        clear ey m h8
        generalize U7 13 = u13
        generalize U7 14 = u14
        generalize U7 15 = u15 at *
        clear U7 a7
        go_wp2_with fail
        go_roundw
        case rel =>
          refine ⟨j + 1, by omega, by go_num, Y ++ [y], R.L, H7.out.2, ?_, by rw [List.length_append, HE.out.2.1]; rfl, HE.out.2.2⟩
          rw [← HE.out.1, List.map_append, List.append_assoc, List.map_singleton, H7.out.1]
          rfl
        case measure => simp [intOf]; omega
    · have i4 : ¬ (j : Int) < (fL.length : Int) := by omega
      obtain ⟨h, ht, hoff, hn, hff, hfin, hgd, efa, hnn⟩ := HQ.out
      have c0 : wr.cell? ⟨d.q, 0, none⟩ = some (.slice d.fa d.fs.length d.fc) := blk_cell m.ex.at0 (i := 0) rfl
      have c5 : wr.cell? ⟨d.q, 5, none⟩ = some (.int .i64 (x.at_ : Int)) := blk_cell m.ex.at0 (i := 5) rfl
      have s5 := blk_soft m.ex.at0 5
      have lq := blk_lt m.ex.at0
      have hln : d.fs.length = x.fr.length := by rw [← h.fr, List.length_map]
      have i5 : (d.fs.length : Int) ≤ 16 := by have := h.ok.f2; omega
      have i6 : (0 : Int) < (d.fs.length : Int) := by omega
      have i7 : ¬ (d.fs.length : Int) = 0 := by omega
      have HNx := hideIt (show ((x.at_ : Int) + 1) % (d.fs.length : Int) = (x.next.at_ : Int) by
        show _ = (((x.at_ + 1) % x.fr.length : Nat) : Int)
        rw [← hln]; simp)
      have hdr : (frd x.st (dsT ⟨ta, tc, tl⟩) (fL.drop j) L) = ([], L) := by rw [List.drop_eq_nil_of_le (by omega)]; rfl
      rw [hdr] at hrn
      have hrn : (Y.map Aw.ad ++ [], L) = _ := hrn
      rw [List.append_nil] at hrn
      obtain ⟨av, cv, ev, _⟩ := m.own.row
      subst ev
      have HE := hideIt (And.intro m (And.intro hrn hgd))
      rw [efa] at c0
      clear h ht hoff hn hff hfin hgd efa hnn hln hdr hrn hY hsk m
      go_wp2_with fail
      go_region
      go_wp2_with fail
      go_ret2
      rw [HNx.out]
      obtain ⟨m, hrn, hgd⟩ := HE.out
      obtain ⟨hs1, hs2⟩ := m.ex.step
      have far : ∀ k, w.heap.size ≤ k → ¬ d.In k := fun k hk s => by have := m.lt k (.inl s); omega
      have e1 : (frd x.st (dsT ⟨ta, tc, tl⟩) (x.fr.getD x.at_ []) x.L).1 = Y.map Aw.ad := by rw [hgd, ← hrn]
      have e2 : (frd x.st (dsT ⟨ta, tc, tl⟩) (x.fr.getD x.at_ []) x.L).2 = L := by rw [hgd, ← hrn]
      refine ⟨_, Y, rfl, own_after (own_but m.own hs2 (fun k hk => far k (m.own.lt k hk).1)) (But.drew But.rfl), fun y hy => own_after (own_but (m.hs y hy) hs2 (fun k hk => far k ((m.hs y hy).lt k hk).1)) (But.drew But.rfl), e1.symm, ?_, (m.go.trans hs2).then (S := d.In) (T := Non) (But.drew But.rfl) (fun _ _ t => t.elim)⟩
      rw [e2]
      exact hs1.after (But.drew But.rfl)
end Go.Proofs.Ytkjjjibglaffnaa
