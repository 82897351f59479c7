/-
  A tick of both, held against each other.
-/
import Derived.Test.YtkjjjibglaffnaaRxM
namespace Go.Proofs.Ytkjjjibglaffnaa
open Go.RowKit
set_option maxRecDepth 8000
theorem airH_slice {w0 w : World} {g p : Nat} {hv : Nat → Value} {H : Nat → List He} {zs : List He} {v : Value} (h : AirH w0 g hv H p zs v w) : ∃ a n c, v = .slice a n c := by
  obtain ⟨_, _, h2, _⟩ := h
  obtain ⟨a, c, e, _⟩ := h2.row
  exact ⟨a, _, c, e⟩
/-- What ticked leaves behind. -/
def TickdB (B : Nat) (w : World) (q : Nat) (d : Rq) (lv : Value) (e : Ending) (w' : World) : Prop := e = .returned (.bool true) ∧ (∃ o' x', Bth B w' q d o' x' lv) ∧ But (From B) w w'
set_option maxHeartbeats 8000000 in
theorem ticked_any {B : Nat} {w : World} {q : Nat} {d : Rq} {o : Nat → Nat} {x : Xp} {lv : Value} (X : Bth B w q d o x lv) (hB : B ≤ w.heap.size) {N : Nat} (hN : N ≤ 1048576) {t : Tc} (ht : t.Fits w N) (hl : t.Low B) :
    Calls Try.prog 11 #[Ptr q, Ptr d.q, .slice t.a t.l.length t.c] w (TickdB B w q d lv) := by
  have HT := hideIt (x_tasks X.xe hB (show N ≤ 4000000 by omega) ht (fun z hz hn => X.low (hl.a z hz hn)) (fun e he z hz hn => X.low (hl.d e he z hz hn)))
  have HX := hideIt (And.intro X (And.intro hB (And.intro hN (And.intro ht hl))))
  have i0 : (t.l.length : Int) ≤ 1048576 := by have := ht.2.1; omega
  clear X hB hN ht hl
  go_enter Try.func11, Try.ntmps11
  go_wp2_with fail
  refine HT.out.mono ?_
  rintro e w3 hm
  obtain ⟨o3, TL, ao, co, aw, cw, rfl, M, r3, n3, m3⟩ := mid_of HX.out.1 HX.out.2.1 hm
  have HM := hideIt (And.intro M (And.intro r3 (And.intro n3 m3)))
  clear M r3 n3 m3 hm HT
  go_wp2_with fail
  have htl : TL.length = t.l.length := tl_len HM.out.1.hd
  by_cases hlen : TL.length = x.st.length
  · have H1 := hideIt (xe_tick (tc := co) (N := N) (M := 0) HM.out.1.bt.xe HM.out.1.sy HM.out.2.1 (fun z hz _ => HM.out.2.2.1 z hz) HM.out.2.2.2 hlen (fit_of HM.out.1.hd HX.out.2.2.2.1) (by have := HX.out.2.2.1; omega) (by decide) (fun _ => Nat.le_refl _) HM.out.1.hB)
    refine H1.out.mono ?_
    rintro e w4 h4
    obtain ⟨rx4, d9, r0, b4⟩ : Rx w4 d x ∧ (∀ k, d.In k → k < w4.heap.size) ∧ True ∧ But (From B) w3 w4 := by
      obtain ⟨v, o4, CV4, _, own, X4, y4, go4, lab4⟩ := h4
      obtain ⟨a1, a2, a3, a4⟩ := HM.out.1.bt.prog ak09.1 ak09.2.1 go4
      exact ⟨a1, fun k hk => a1.lt k (.inl hk), trivial, a4⟩
    have H2 := hideIt (rtick_any rx4 ((HX.out.2.2.2.1.low HX.out.2.2.2.2 HM.out.1.go).low HX.out.2.2.2.2 b4) (show N ≤ 1000000000 by have := HX.out.2.2.1; omega) (HM.out.1.bt.off HX.out.2.2.2.2) (by rw [← htl]; exact hlen))
    obtain ⟨va, e4⟩ : ∃ va, e = .returned (.tuple #[va, .int .i64 0]) := by
      obtain ⟨v, o4, CV4, e4, _⟩ := h4
      exact ⟨v, e4⟩
    subst e4
    have H4 := hideIt h4
    clear h4 rx4 d9 r0 b4 H1
    go_wp2_with fail
    refine H2.out.mono ?_
    rintro e w5 h5
    obtain ⟨o5, va', vb, F, Y, e1, rfl, K⟩ := tkd_of HM.out.1 HX.out.2.2.1 (fun e he => (HX.out.2.2.2.1.2.2 e he).2.1) H4.out h5 (by rw [hlen]; exact HM.out.1.bt.xe.ok.s2)
    cases e1
    have HK := hideIt K
    obtain ⟨aa, ca, ea, ga, _⟩ := K.ra.row
    obtain ⟨ab, cb, eb, gb, _⟩ := K.rb.row
    subst ea
    subst eb
    have hY : Y.length = F.length := by rw [← K.ad, List.length_map]
    have hfa : (F.map Ad.a).length = F.length := List.length_map ..
    rw [hfa] at ga ⊢
    rw [hY] at gb ⊢
    have GA := hideIt ga
    have GB := hideIt gb
    clear ga gb
    have i1 : (F.length : Int) ≤ 8 := by have := K.n8; omega
    have hne : ((F.length : Int) != (F.length : Int)) = false := by simp
    clear K h5 H2 hlen
    go_wp2_with fail
    have HA0 := hideIt (show Ha w5 (w5.alloc (.cells (haC (fun _ => .slice none 0 0)) 90)) w5.heap.size (fun _ => .slice none 0 0) (fun _ => []) from ⟨heap_alloc_new w5 _, fun _ => orow_nil _ _ _ _, fun _ _ _ _ h => (by cases h), Nat.le_refl _, After.rfl.alloc _⟩)
    go_loopw [14] (fun iv wr => ∃ (j : Nat) (hv : Nat → Value), j ≤ F.length ∧ iv = .int .i64 j ∧ Ha w5 wr w5.heap.size hv (joinH (F.take j) (fun _ => []))) (fun iv _ => F.length - (intOf iv).toNat)
    case atStart => exact ⟨0, _, Nat.zero_le _, rfl, HA0.out⟩
    case round =>
      clear HA0
      obtain ⟨j, hv, hj, rfl, ha⟩ := hrel
      by_cases hjn : j < F.length
      · have i2 : (j : Int) < (F.length : Int) := by omega
        obtain ⟨b1, f1, an, rfl, hb1, hx1, d0, d1, d2, d3⟩ := an_at GA.out hjn
        obtain ⟨b2, f2, y, rfl, hb2, hy, g0, g1, g2, g3, g4⟩ := aw_at GB.out hjn
        have hfj : F[j]? = some y.ad := by rw [← HK.out.ad, List.getElem?_map, hy]; rfl
        have hym := List.mem_of_getElem? hy
        have hfm := List.mem_of_getElem? hfj
        rw [List.getElem?_map, hfj] at hx1
        cases hx1
        have af := ha.aft
        have d0 := cell_but af hb1 (fun t => t) d0
        have d1 := cell_but af hb1 (fun t => t) d1
        have d2 := cell_but af hb1 (fun t => t) d2
        have d3 := cell_but af hb1 (fun t => t) d3
        have HCe := hideIt (And.intro hb2 g4)
        have g0 := cell_but af hb2 (fun t => t) g0
        have g1 := cell_but af hb2 (fun t => t) g1
        have g2 := cell_but af hb2 (fun t => t) g2
        have g3 := cell_but af hb2 (fun t => t) g3
        obtain ⟨p0, p8⟩ := HK.out.ps _ hfm
        have p0 : 0 ≤ y.p := p0
        have p8 : y.p < 8 := p8
        have HY3 := hideIt (show y.p = (y.p.toNat : Int) by omega)
        have HY8 := hideIt (show y.p.toNat < 8 by omega)
        have HLn := hideIt (show (joinH (F.take j) (fun _ => []) y.p.toNat).length + y.h.length ≤ 16777216 by
          have l1 := joinH_len (N := 1048576) (F.take j) (fun _ => []) 0 (fun e he => HK.out.ln e (List.mem_of_mem_take he)) (fun _ => Nat.le_refl _) y.p.toNat
          have l2 : y.h.length ≤ 1048576 := HK.out.ln _ hfm
          rw [List.length_take] at l1
          have l3 := HK.out.n8
          have l4 : min j F.length * 1048576 ≤ 8 * 1048576 := Nat.mul_le_mul_right _ (by omega)
          omega)
        have HRw := hideIt (show GRow heE w5 y.a y.h.length y.h ∧ (y.a = none → y.h.length = 0 ∧ y.c = 0) by
          obtain ⟨a, c, e, r, n, _⟩ := (HK.out.hs y hym).row
          cases e
          exact ⟨r, n⟩)
        have HV := hideIt (show ∃ a c, hv y.p.toNat = .slice a (joinH (F.take j) (fun _ => []) y.p.toNat).length c by
          obtain ⟨a, c, e, _⟩ := (ha.own y.p.toNat).row
          exact ⟨a, c, e⟩)
        have HHa := hideIt ha
        have HT := hideIt (show joinH (F.take (j + 1)) (fun _ => []) = setf (joinH (F.take j) (fun _ => [])) y.p.toNat (joinH (F.take j) (fun _ => []) y.p.toNat ++ y.h) from joinH_take hfj _)
        have HFs := hideIt (And.intro hfj hym)
        have q1 : (y.p != y.p) = false := by simp
        have q2 : (y.t.u != y.t.u) = false := by simp
        have q3 : (y.t.ov != y.t.ov) = false := by simp
        have q4 : (y.t.fa != y.t.fa) = false := by simp
        clear ha af hb1 hb2 hfj hym hfm g4 hy
        change wr.cell? ⟨b1, f1 + j * 4, none⟩ = some (.int .i64 y.p) at d0
        change wr.cell? ⟨b1, f1 + j * 4 + 1, none⟩ = some (.int .i64 y.t.u) at d1
        change wr.cell? ⟨b1, f1 + j * 4 + 2, none⟩ = some (.bool y.t.ov) at d2
        change wr.cell? ⟨b1, f1 + j * 4 + 3, none⟩ = some (.bool y.t.fa) at d3
        go_wp2_with fail
        go_quiet (fail)
        clear d0 d1 d2 d3 g0 g1 g2 g3 q1 q2 q3 q4
        have HHa := hideIt (HHa.out.after (After.draws After.rfl nq))
        go_wp2_with fail
        refine region_inv (by kernel_rfl) (Tab.J (⟨12, fun i => [101, 102, 103, 104, 105, 106, 107, 108, 109, 110, 111, 900].getD i 0, fun i => ([some (.int .i64 y.p), some (.int .i64 y.p), some (.pointer (some ⟨w5.heap.size, y.p.toNat, none⟩)), some (hv y.p.toNat), some (.slice (some ⟨b2, f2, none⟩) F.length cb), some (.int .i64 (j : Int)), some (.pointer (some ⟨b2, f2 + j * 5, none⟩)), some (.pointer (some ⟨b2, f2 + j * 5 + 4, none⟩)), some (.slice y.a y.h.length y.c), none, some (.pointer (some ⟨w5.heap.size, y.p.toNat, none⟩)), none] : List (Option Value)).getD i none, ChA 9 11 3 8 (fun w => Ha w5 w w5.heap.size hv (joinH (F.take j) (fun _ => []))) (AirH w5 w5.heap.size hv (joinH (F.take j) (fun _ => [])) y.p.toNat y.h) (fun w => ∃ v, Ha w5 w w5.heap.size (setf hv y.p.toNat v) (setf (joinH (F.take j) (fun _ => [])) y.p.toNat (joinH (F.take j) (fun _ => []) y.p.toNat ++ y.h)))⟩ : Tab) _) ⟨rfl, rfl, fun _ _ => rfl, (fun _ _ _ _ h => by cases h), ChA.start (HHa.out.after (But.drew But.rfl))⟩ ?_ ?_
        · exact ⟨inv_move (.inl rfl) rfl rfl rfl rfl rfl rfl rfl rfl (ChA.keep (neB rfl) (neB rfl) (neB rfl)) rfl,
            inv_move (.inl rfl) rfl rfl rfl rfl rfl rfl rfl rfl (ChA.keep (neB rfl) (neB rfl) (neB rfl)) rfl,
            inv_index rfl rfl rfl rfl rfl rfl rfl rfl rfl (ChA.keep (neB rfl) (neB rfl) (neB rfl)) rfl rfl (fun w => indexH w _ HY3.out HY8.out),
            inv_loadD rfl rfl rfl rfl rfl rfl rfl rfl rfl (ChA.keep (neB rfl) (neB rfl) (neB rfl)) rfl (fun L u w hl h => by
              have hc := blk_cell (h.p0 (fls h.i4 hl)).at0 (haC_at hv HY8.out)
              obtain ⟨ap, cp, ep⟩ := HV.out
              rw [ep] at hc ⊢
              exact loadHe hc),
            inv_move (.inl rfl) rfl rfl rfl rfl rfl rfl rfl rfl (ChA.keep (neB rfl) (neB rfl) (neB rfl)) rfl,
            inv_move (.inl rfl) rfl rfl rfl rfl rfl rfl rfl rfl (ChA.keep (neB rfl) (neB rfl) (neB rfl)) rfl,
            inv_index rfl rfl rfl rfl rfl rfl rfl rfl rfl (ChA.keep (neB rfl) (neB rfl) (neB rfl)) rfl rfl (fun w => indexTw w _ _ _ _ i2),
            inv_field rfl rfl rfl rfl rfl rfl rfl rfl rfl (ChA.keep (neB rfl) (neB rfl) (neB rfl)) rfl (fun w => fieldTu w _ _),
            inv_loadD rfl rfl rfl rfl rfl rfl rfl rfl rfl (ChA.keep (neB rfl) (neB rfl) (neB rfl)) rfl (fun L u w hl h => loadHe (cell_but (h.p0 (fls h.i5 hl)).aft HCe.out.1 (fun t => t) HCe.out.2)),
            inv_any rfl rfl rfl rfl rfl rfl rfl rfl (fun a W L K hv9 hd hl h hK => by
              have h0 := h.p0 hl
              exact wp_appAt (E := heE) Try.underlying60 Try.infoHe rfl (.tmp 104) (.tmp 109) rfl (hv9 (.tmp 104) _ rfl) (h0.own y.p.toNat) (hv9 (.tmp 109) _ rfl) (HRw.out.1.after h0.aft) HRw.out.2 (by have := HLn.out; unfold maxLen; omega) (by have := HLn.out; omega) h0.aft.size (fun v3 w3 h1 h2 h3 => hK _ _ (ChA.app (neB rfl) h (hd 3 rfl) (hd 8 rfl) hl ⟨W, h0, h1, h2, h3⟩))),
            inv_index rfl rfl rfl rfl rfl rfl rfl rfl rfl (ChA.keep (neB rfl) (neB rfl) (neB rfl)) rfl rfl (fun w => indexH w _ HY3.out HY8.out),
            inv_end rfl rfl rfl rfl rfl rfl (fun L a W hv9 hd hl h => by
              have h3 := h.p3 (hd 9 rfl) hl
              rw [hv9 (.tmp 111) _ rfl]
              have c1 := blk_cell h3.at1 (haC_at hv HY8.out)
              have s1 := blk_soft h3.at1 y.p.toNat
              obtain ⟨aq, nq, cq, eq⟩ := airH_slice h3
              refine ⟨W.setCell ⟨w5.heap.size, y.p.toNat, none⟩ (a.eval (.tmp 110)), ?_, ChA.store (neB rfl) h (hd 9 rfl) ⟨_, h3.land HY8.out⟩⟩
              rw [show a.eval (.tmp 110) = _ from eq]
              exact storeHe c1 s1),
            trivial⟩
        · intro a7 w7 L7 hL7 J7
          have e7 := J7.fin hL7 rfl
          have W7 := J7.other
          have h7 := W7.p4 (hL7 11 (Nat.le_of_ble_eq_true rfl))
          clear J7 W7
          rw [e7]
          clear e7
          generalize hv7 : Tab.u _ a7 = U7 at *
          simp only [Tab.puts, List.getD_cons_succ, List.getD_cons_zero, Option.getD_some, Option.getD_none, List.setIfInBounds_toArray, List.set_cons_succ, List.set_cons_zero, List.set_nil]
          clear hv7 hL7
          obtain ⟨v7, h7⟩ := h7
          have H7 := hideIt h7
          clear h7
          generalize U7 9 = u9
          clear U7 a7
          go_wp2_with fail
          go_roundw
          case rel => exact ⟨j + 1, _, by omega, by go_num, by rw [HT.out]; exact H7.out⟩
          case measure => simp [intOf]; omega
      · have i2 : ¬ (j : Int) < (F.length : Int) := by omega
        rw [List.take_of_length_le (by omega)] at ha
        have HHa := hideIt ha
        clear ha
        go_wp2_with fail
        obtain ⟨gw, nw⟩ : GRow pkE w5 aw TL.length TL ∧ True := by
          obtain ⟨a, c, e, r, _⟩ := HK.out.rw.row
          cases e
          exact ⟨r, trivial⟩
        have GW := hideIt gw
        have i3 : (TL.length : Int) ≤ 8 := by have := HK.out.t8; omega
        clear gw nw
        go_loopw [16] (fun iv wr => ∃ i : Nat, i ≤ TL.length ∧ iv = .int .i64 i ∧ Ha w5 wr w5.heap.size hv (joinH F (fun _ => []))) (fun iv _ => TL.length - (intOf iv).toNat)
        case atStart => exact ⟨0, Nat.zero_le _, rfl, HHa.out⟩
        case round =>
          clear HHa
          obtain ⟨i, hi, rfl, ha⟩ := hrel
          by_cases hin : i < TL.length
          · have i4 : (i : Int) < (TL.length : Int) := by omega
            have i8 : i < 8 := by omega
            obtain ⟨b3, f3, k, rfl, hb3, hk, c0⟩ := pk_at GW.out hin
            have c0 := cell_but ha.aft hb3 (fun t => t) c0
            have HHa := hideIt ha
            have HTk := hideIt hk
            cases k with
            | none =>
              change wr.cell? ⟨b3, f3 + i, none⟩ = some (.pointer none) at c0
              clear ha hk hb3
              go_wp2_with fail
              go_quiet (fail)
              go_wp2_with fail
              go_roundw
              case rel => exact ⟨i + 1, by omega, by go_num, HHa.out.after (After.draws After.rfl nq)⟩
              case measure => simp [intOf]; omega
            | some k =>
              change wr.cell? ⟨b3, f3 + i, none⟩ = some (Ptr k.t) at c0
              obtain ⟨cv, ⟨vh, tx⟩, dn⟩ := HK.out.tk i k hk
              have tb := (ha.aft.block k.t (blk_lt tx.at0) (fun t => t)).trans tx.at0
              have ow : ORow heE 69 wr 0 vh (joinH F (fun _ => []) i) := own_after tx.own ha.aft
              obtain ⟨ah, ch, eh, rh, _⟩ := ow.row
              subst eh
              obtain ⟨ah2, ch2, eh2, rh2, _⟩ := (ha.own i).row
              have c1 := blk_cell tb (i := 1) rfl
              have c2 := blk_cell tb (i := 2) rfl
              have c3 := blk_cell ha.at0 (haC_at hv i8)
              rw [eh2] at c3
              have nc := (dn.but ha.aft (fun _ _ _ t => t) (fun _ _ => rfl)).none
              have hlen : (joinH F (fun _ => []) i).length ≤ 8388608 := by
                have l1 := joinH_len (N := 1048576) F (fun _ => []) 0 (fun e he => HK.out.ln e he) (fun _ => Nat.le_refl _) i
                have l3 := HK.out.n8
                have l4 : F.length * 1048576 ≤ 8 * 1048576 := Nat.mul_le_mul_right _ (by omega)
                omega
              have HQ := hideIt (show ∀ n, Calls Try.prog 17 #[.slice ah (joinH F (fun _ => []) i).length ch, .slice ah2 (joinH F (fun _ => []) i).length ch2] (wr.drewN n) fun e w' => e = .returned (.bool true) ∧ ∃ m, w' = (wr.drewN n).drewN m from fun n => heards_q (rh.after (After.draws After.rfl n)) (rh2.after (After.draws After.rfl n)) (by omega))
              have HO := hideIt (show ∀ n, Calls Try.prog 18 #[cv] (wr.drewN n) fun e w' => e = .returned (.bool true) ∧ w' = wr.drewN n from fun n => over_yes (nc.after (After.draws After.rfl n)))
              obtain ⟨nh, hnh⟩ : ∃ n, n = (joinH F (fun _ => []) i).length := ⟨_, rfl⟩
              rw [← hnh] at c1 c3 HQ
              have lk := blk_lt tb
              clear ha hk hb3 tx dn tb ow rh eh2 rh2 nc hlen hnh
              go_wp2_with fail
              go_quiet (first | (go_at_call 17; refine Calls.quiet_of (HQ.out _)) | (go_at_call 18; exact Calls.quiet_of_same (HO.out _)))
              go_wp2_with fail
              go_roundw
              case rel => exact ⟨i + 1, by omega, by go_num, HHa.out.after (After.draws After.rfl nq)⟩
              case measure => simp [intOf]; omega
          · have i4 : ¬ (i : Int) < (TL.length : Int) := by omega
            have HHa := hideIt ha
            clear ha
            go_wp2_with fail
            go_ret
            obtain ⟨x', hx'⟩ := HK.out.bt
            exact ⟨rfl, ⟨o5, x', hx'.after HHa.out.aft⟩, HK.out.go.then HHa.out.aft (fun _ _ t => t.elim)⟩
  · obtain ⟨fa, fc, sa, sc, fws, hx⟩ := HM.out.1.bt.xe.ex
    have H1 := hideIt (tick_arg (ta := ao) (n := TL.length) (tc := co) hx.at0 (by rw [hx.len]; exact hx.ok.f1) hlen)
    have i3 : (TL.length : Int) ≤ 1048576 := by omega
    have hlen2 : t.l.length ≠ x.st.length := by rw [← htl]; exact hlen
    have HL := hideIt hlen2
    clear hx hlen hlen2
    refine H1.out.mono ?_
    rintro e w4 ⟨rfl, af⟩
    have A4 := hideIt af
    have H2 := hideIt (rtick_no (ta := t.a) (n := t.l.length) (tc := t.c) (HM.out.1.bt.rx.after af) HL.out)
    clear af H1
    go_wp2_with fail
    refine H2.out.mono ?_
    rintro e w5 ⟨rfl, hw⟩
    obtain rfl := hw.symm
    clear H2 hw
    go_wp2_with fail
    obtain ⟨W, hW⟩ : ∃ W, W = w4.alloc (.cells (haC (fun _ => .slice none 0 0)) 90) := ⟨_, rfl⟩
    have HW := hideIt (show After w4 W by rw [hW]; exact After.rfl.alloc _)
    go_loopw [14] (fun iv wr => iv = .int .i64 0 ∧ After w4 wr) (fun _ _ => 0)
    case atStart => exact ⟨rfl, After.rfl.alloc _⟩
    case round =>
      obtain ⟨rfl, a5⟩ := hrel
      have A5 := hideIt a5
      clear a5
      go_wp2_with fail
      go_loopw [16] (fun iv wr => iv = .int .i64 0 ∧ After w4 wr) (fun _ _ => 0)
      case atStart => exact ⟨rfl, A5.out⟩
      case round =>
        obtain ⟨rfl, a6⟩ := hrel
        have A6 := hideIt (A4.out.trans a6)
        clear a6
        by_cases hT : (0 : Int) < (TL.length : Int)
        · go_wp2_with fail
          go_ret
          exact ⟨rfl, ⟨o3, x, HM.out.1.bt.after A6.out⟩, HM.out.1.go.then A6.out (fun _ _ t => t.elim)⟩
        · go_wp2_with fail
          go_ret
          exact ⟨rfl, ⟨o3, x, HM.out.1.bt.after A6.out⟩, HM.out.1.go.then A6.out (fun _ _ t => t.elim)⟩
end Go.Proofs.Ytkjjjibglaffnaa
