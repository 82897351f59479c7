/-
  ExecSteps: no turn uses more steps than its partition has; each minor frame has its turns, in order, round and round.
-/
import Derived.Test.YtkjjjibglaffnaaExW
namespace Go.Proofs.Ytkjjjibglaffnaa
open Go.RowKit
set_option maxRecDepth 8000
theorem frm_parts (st : List Int) (DS : Nat → List De) : ∀ (ps : List Int) (L : List Lk) (H : Nat → List He), (frm st DS ps L H).1.map An.p = ps
  | [], _, _ => rfl
  | p :: r, L, H => by
    rw [frm_cons, List.map_cons, frm_parts st DS r]
theorem frm_used {st : List Int} (hst : ∀ s ∈ st, 0 ≤ s) (DS : Nat → List De) : ∀ (ps : List Int) (L : List Lk) (H : Nat → List He), (∀ p ∈ ps, 0 ≤ p ∧ p < (st.length : Int)) → ∀ a ∈ (frm st DS ps L H).1, 0 ≤ a.t.u ∧ a.t.u ≤ st.getD a.p.toNat 0
  | [], _, _, _, a, ha => by cases ha
  | p :: r, L, H, hp, a, ha => by
    rw [frm_cons] at ha
    rcases List.mem_cons.1 ha with rfl | ha
    · have h0 := hp p (List.mem_cons_self ..)
      have hl : p.toNat < st.length := by omega
      have hm : st.getD p.toNat 0 ∈ st := by
        rw [List.getD_eq_getElem?_getD, List.getElem?_eq_getElem hl]
        exact List.getElem_mem hl
      exact run_in (x := ⟨Tn.new, L, 0, H p.toNat⟩) (in_new (hst _ hm))
    · exact frm_used hst DS r _ _ (fun q hq => hp q (List.mem_cons_of_mem _ hq)) a ha
theorem ls_facts {B : Nat} {w : World} {q : Nat} {o : Nat → Nat} {x : Xp} {lv : Value} (X : Xe B w q o x lv) (_hB : B ≤ w.heap.size) (DS : Nat → List De) (H : Nat → List He) : (x.run DS H).1.map An.p = x.fr.getD x.at_ [] ∧ ∀ a ∈ (x.run DS H).1, 0 ≤ a.t.u ∧ a.t.u ≤ x.st.getD a.p.toNat 0 := by
  have ok := X.ok
  have hm : x.fr.getD x.at_ [] ∈ x.fr := by
    rw [List.getD_eq_getElem?_getD, List.getElem?_eq_getElem ok.a1]
    exact List.getElem_mem ok.a1
  exact ⟨frm_parts .., frm_used (fun s hs => (ok.ss s hs).1) DS _ _ _ (ok.fs _ hm).2⟩
/-- The exec of the loop: m minor frames on. -/
def Ls (p : Pl) (B : Nat) (w0 w : World) (q m : Nat) : Prop := ∃ o x lv, Xe B w q o x lv ∧ x.fr = p.fr ∧ x.st = p.st ∧ x.at_ = m % p.fr.length ∧ After w0 w ∧ B ≤ w.heap.size
set_option maxHeartbeats 8000000 in
theorem law_steps21 (w : World) (p : Pl) (ta : Option Addr) (tc : Nat) (ks : List Tc) (hp : p.Fits w 1048576) (ht : GRow tcE w ta ks.length ks) (hk : ∀ t ∈ ks, t.Fits w 1048576) (hn : ks.length ≤ 1048576) :
    Calls Try.prog 6 #[.agg p.cs, .slice ta ks.length tc] w fun e w' => e = .returned (.bool true) ∧ After w w' := by
  obtain ⟨gp, hgp⟩ : ∃ g, g = w.heap.size := ⟨_, rfl⟩
  obtain ⟨W0, hW0⟩ : ∃ W, W = w.alloc (.cells p.cs 26) := ⟨_, rfl⟩
  have a0 : After w W0 := by rw [hW0]; exact After.rfl.alloc _
  have hb0 : W0.heap[gp]? = some (.cells p.cs 26 (0, 0)) := by rw [hW0, hgp]; exact heap_alloc_new w _
  have HA := hideIt (awake_any W0)
  have HW := hideIt (And.intro hW0 hgp)
  have HP := hideIt (And.intro hp (And.intro ht hk))
  have HB := hideIt (And.intro a0 hb0)
  have i0 : (ks.length : Int) ≤ 1048576 := by omega
  have i1 : (p.fs.length : Int) ≤ 1048576 := by have := hp.n1; omega
  have i2 : (p.st.length : Int) ≤ 1048576 := by have := hp.n2; omega
  clear hp ht hk hn a0 hb0 hW0 hgp
  go_enter Try.func6, Try.ntmps6
  go_wp2_with fail
  rw [← HW.out.1, ← HW.out.2]
  refine HA.out.mono ?_
  rintro e w1 ⟨rfl, af1⟩
  have A1 := hideIt (HB.out.1.trans af1)
  have h1 := (af1.block gp (blk_lt HB.out.2) (fun t => t)).trans HB.out.2
  have HG := hideIt h1
  have c0 := blk_cell h1 (i := 0) rfl
  have c1 := blk_cell h1 (i := 1) rfl
  have c2 := blk_cell h1 (i := 2) rfl
  clear af1 h1 HA
  by_cases hok : p.chk = 0
  · have HN := hideIt (pl_ok (HP.out.1.after A1.out) hok)
    go_wp2_with fail
    refine HN.out.mono ?_
    rintro e w2 ⟨q, o, lv, rfl, X, af2⟩
    have HS := hideIt (show Ls p w1.heap.size w1 w2 q 0 from ⟨o, p.xp, lv, X, rfl, rfl, by rw [Nat.zero_mod]; rfl, af2, af2.size⟩)
    clear X af2 HN c0 c1 c2 hok
    go_wp2_with fail
    go_loopw [7, 8] (fun mv iv wr => ∃ (j m : Nat), j ≤ ks.length ∧ j ≤ 40 ∧ m ≤ j ∧ iv = .int .i64 j ∧ mv = .int .i64 m ∧ Ls p w1.heap.size w1 wr q m) (fun _ iv _ => 40 - (intOf iv).toNat)
    case atStart => exact ⟨0, 0, Nat.zero_le _, Nat.zero_le _, Nat.le_refl _, rfl, rfl, HS.out⟩
    case round =>
      obtain ⟨j, m, hj, hj4, hm, rfl, rfl, ls⟩ := hrel
      clear HS
      by_cases hgo : j < ks.length ∧ j < 40
      · obtain ⟨hjn, hj40⟩ := hgo
        have i3 : (j : Int) < (ks.length : Int) := by omega
        have i4 : (j : Int) < 40 := by omega
        obtain ⟨o, x, lv, X, ef, es, ea, ar, hB⟩ := ls
        have ar0 := A1.out.trans ar
        obtain ⟨bb, off, t, rfl, hb, htj, d0⟩ := tc_at (HP.out.2.1.after ar0) hjn
        have htf := (HP.out.2.2 t (List.mem_of_getElem? htj))
        have zero : ∀ z : Nat, z < w.heap.size → o z = 0 := fun z hz => by
          rcases Nat.eq_zero_or_pos (o z) with e | e
          · exact e
          · have := X.base z (by omega); have := A1.out.size; omega
        have HT := hideIt (x_tasks X hB (show 1048576 ≤ 4000000 by decide) (htf.after ar0) (fun z hz hn => by
          obtain ⟨b', off', e', hl'⟩ := htf.1.lt hn
          rw [hz] at e'
          cases e'
          exact zero _ hl') (fun d hd z hz hn => by
          obtain ⟨b', off', e', hl'⟩ := (htf.2.2 d hd).1.lt hn
          rw [hz] at e'
          cases e'
          exact zero _ hl'))
        have HX := hideIt (And.intro ef (And.intro es (And.intro ea (And.intro ar (And.intro hB (And.intro htf ar0))))))
        clear X ef es ea ar hB ar0 htj htf zero
        go_wp2_with fail
        refine HT.out.mono ?_
        rintro e w3 ⟨o3, TL, ao, co, aw, cw, rfl, X3, y3, r3, l5, n3, r6, l6, hds, go3, _⟩
        have H3 := hideIt (And.intro X3 (And.intro y3 (And.intro r3 (And.intro l5 (And.intro n3 (And.intro hds go3))))))
        clear X3 y3 r3 l5 n3 r6 l6 hds go3 HT d0 hb
        have hBw : w1.heap.size ≤ w3.heap.size := Nat.le_trans HX.out.2.2.2.2.1 H3.out.2.2.2.2.2.2.but.size
        have a13 : After w1 w3 := HX.out.2.2.2.1.then H3.out.2.2.2.2.2.2.but (fun k hk s => by
          have := H3.out.1.base k (by rw [H3.out.2.2.2.2.2.2.ext k (Nat.lt_of_lt_of_le hk HX.out.2.2.2.1.size)]; intro e; rw [e] at s; unfold A56 at s; omega)
          omega)
        have H13 := hideIt (And.intro hBw a13)
        clear hBw a13
        have hgp := (H13.out.2.block gp (blk_lt HG.out) (fun t => t)).trans HG.out
        have HGp := hideIt hgp
        clear hgp
        by_cases hlen : TL.length = p.st.length
        · have hne : ((TL.length : Int) != (p.st.length : Int)) = false := by rw [hlen]; simp
          have HTk := hideIt (xe_tick (tc := co) (N := 1048576) (M := 0) H3.out.1 H3.out.2.1 H3.out.2.2.1 (fun z hz _ e => by
            have h5 := H3.out.2.2.2.1 z hz
            have h1 := H3.out.1.op.1
            rw [e, h1] at h5
            cases h5) H3.out.2.2.2.2.1 (by rw [HX.out.2.1]; exact hlen) (fit_of H3.out.2.2.2.2.2.1 HX.out.2.2.2.2.2.1) (by decide) (by decide) (fun _ => Nat.le_refl _) H13.out.1)
          have hfn : 1 ≤ p.fs.length := by have := H3.out.1.ok.f1; rw [HX.out.1] at this; simpa [Pl.fr] using this
          obtain ⟨r, hr⟩ : ∃ r, r = m % p.fs.length := ⟨_, rfl⟩
          have hrl : r < p.fs.length := by rw [hr]; exact Nat.mod_lt _ hfn
          have HR := hideIt hr
          clear hlen hr
          go_wp2_with fail
          refine HTk.out.mono ?_
          rintro e w4 ⟨v, o4, CV4, rfl, own, X4, y4, go4, lab4⟩
          obtain ⟨av, cv, ev, rv, _⟩ := own.row
          subst ev
          obtain ⟨hmp, hus⟩ := ls_facts H3.out.1 H13.out.1 (DSof TL) (fun _ => [])
          have a14 : After w1 w4 := H13.out.2.then go4.but (fun k hk s => by
            have := X4.base k (by rw [go4.ext k (Nat.lt_of_lt_of_le hk H13.out.2.size)]; exact AK0 s)
            omega)
          have aw4 := A1.out.trans a14
          have pf := HP.out.1.after aw4
          obtain ⟨fb, fo, ⟨fA, fC, fL⟩, ef, hfb, hfr, e0⟩ := fw_at pf.rf hrl
          dsimp only at e0
          have hgp := (a14.block gp (blk_lt HG.out) (fun t => t)).trans HG.out
          have c0 : w4.cell? ⟨gp, 0, none⟩ = some (.slice p.fa p.fs.length p.fc) := blk_cell hgp (i := 0) rfl
          have c1 : w4.cell? ⟨gp, 1, none⟩ = some (.slice p.sa p.st.length p.sc) := blk_cell hgp (i := 1) rfl
          have lgp := blk_lt hgp
          have efl : x.fr.getD x.at_ [] = fL := by
            have h2 : p.fr[r]? = some fL := by unfold Pl.fr; rw [List.getElem?_map, hfr]; rfl
            have h3 : x.at_ = r := by rw [HX.out.2.2.1, HR.out]; unfold Pl.fr; rw [List.length_map]
            rw [HX.out.1, h3, List.getD_eq_getElem?_getD, h2]; rfl
          rw [efl] at hmp
          rw [HX.out.2.1] at hus
          obtain ⟨l, hl⟩ : ∃ l, l = (x.run (DSof TL) (fun _ => [])).1 := ⟨_, rfl⟩
          rw [← hl] at hmp hus rv own ⊢
          have hll : l.length = fL.length := by rw [← hmp, List.length_map]
          have hfm : fL ∈ x.fr := by
            have ok := H3.out.1.ok
            rw [← efl, List.getD_eq_getElem?_getD, List.getElem?_eq_getElem ok.a1]
            exact List.getElem_mem ok.a1
          obtain ⟨hfl8, hfin⟩ := H3.out.1.ok.fs _ hfm
          rw [HX.out.2.1] at hfin
          have hne2 : ((l.length : Int) != (fL.length : Int)) = false := by rw [hll]; simp
          have i5 : (r : Int) < (p.fs.length : Int) := by omega
          have i6 : (0 : Int) < (p.fs.length : Int) := by omega
          have i7 : ¬ (p.fs.length : Int) = 0 := by omega
          have i8 : (l.length : Int) ≤ 8 := by omega
          have i9 : (m : Int) ≤ 40 := by omega
          have hmod : (m : Int) % (p.fs.length : Int) = (r : Int) := by rw [HR.out]; simp
          have hmod2 : (m : Int).tmod (p.fs.length : Int) = (r : Int) := by rw [Int.tmod_eq_emod_of_nonneg (by omega)]; exact hmod
          have H4 := hideIt (And.intro X4 (And.intro rv (And.intro hmp (And.intro hus (And.intro hll (And.intro a14 (And.intro aw4 (And.intro hfr (And.intro hgp (And.intro hfin (And.intro go4 (And.intro y4 lab4))))))))))))
          rw [ef] at c0
          have HE := hideIt ef
          clear own X4 y4 go4 lab4 rv hmp hus a14 aw4 pf hfr hgp efl hll hl hfl8 hfm hfin HTk ef
          go_wp2_with fail
          go_region
          clear c0 c1 lgp e0 hfb
          go_wp2_with fail
          go_loopw [14] (fun iv wr5 => ∃ k : Nat, k ≤ l.length ∧ iv = .int .i64 k ∧ After w4 wr5) (fun iv _ => l.length - (intOf iv).toNat)
          case atStart => exact ⟨0, Nat.zero_le _, rfl, But.drew But.rfl⟩
          case round =>
            obtain ⟨k, hk, rfl, a5⟩ := hrel
            by_cases hkl : k < l.length
            · have hkf : k < fL.length := by rw [← H4.out.2.2.2.2.1]; exact hkl
              have i10 : (k : Int) < (l.length : Int) := by omega
              have aw5 := H4.out.2.2.2.2.2.2.1.trans a5
              obtain ⟨b1, f1, an, rfl, hb1, hx1, d0, d1, d2, d3⟩ := an_at (H4.out.2.1.after a5) hkl
              obtain ⟨b2, f2, z2, rfl, hb2, hx2, g0⟩ := in_at ((HP.out.1.fw ⟨fA, fC, fL⟩ (List.mem_of_getElem? H4.out.2.2.2.2.2.2.2.1)).1.after aw5) hkf
              have hz2 : z2 = an.p := by
                have h := congrArg (·[k]?) H4.out.2.2.1
                simp only [List.getElem?_map, hx1, Option.map_some] at h
                rw [hx2] at h
                cases h; rfl
              obtain ⟨n0, n1⟩ := H4.out.2.2.2.2.2.2.2.2.2.1 z2 (List.mem_of_getElem? hx2)
              obtain ⟨nq, hnq⟩ : ∃ nq : Nat, z2 = (nq : Int) := ⟨z2.toNat, by omega⟩
              subst hnq
              have hnl : nq < p.st.length := by omega
              obtain ⟨b3, f3, z3, e3, hb3, hx3, g3⟩ := in_at ((HP.out.1.rs).after aw5) hnl
              obtain ⟨u0, u1⟩ := H4.out.2.2.2.1 an (List.mem_of_getElem? hx1)
              rw [← hz2] at d0 u1
              rw [Int.toNat_natCast, List.getD_eq_getElem?_getD, hx3] at u1
              simp only [Option.getD_some] at u1
              have c1 : wr.cell? ⟨gp, 1, none⟩ = some (.slice p.sa p.st.length p.sc) := blk_cell ((a5.block gp (blk_lt H4.out.2.2.2.2.2.2.2.2.1) (fun t => t)).trans H4.out.2.2.2.2.2.2.2.2.1) (i := 1) rfl
              rw [e3] at c1
              have q1 : ((nq : Int) != (nq : Int)) = false := by simp
              have q2 : decide (an.t.u < 0) = false := by simpa using u0
              have q3 : decide (z3 < an.t.u) = false := by simpa using u1
              have q4 : decide (an.t.u > z3) = false := by simpa using u1
              have i11 : (nq : Int) < (p.st.length : Int) := by omega
              have A5 := hideIt a5
              clear a5 aw5 hx1 hx2 hx3 hz2 n0 n1 u0 u1 e3 hb1 hb2 hb3 d2 d3
              go_wp2_with fail
              go_quiet (fail)
              go_wp2_with fail
              go_roundw
              case rel => exact ⟨k + 1, by omega, by go_num, A5.out.draws nq⟩
              case measure => simp [intOf]; omega
            · have i10 : ¬ (k : Int) < (l.length : Int) := by omega
              have A5 := hideIt a5
              clear a5
              go_wp2_with fail
              go_roundw
              case rel => exact ⟨j + 1, m + 1, by omega, by omega, by omega, by go_num, by go_num, ⟨o4, x.tick (DSof TL) (fun _ => []), lv, H4.out.1.after A5.out, HX.out.1, HX.out.2.1, by show (x.at_ + 1) % x.fr.length = _; rw [HX.out.1, HX.out.2.2.1, Nat.mod_add_mod], H4.out.2.2.2.2.2.1.trans A5.out, Nat.le_trans H13.out.1 (Nat.le_trans H4.out.2.2.2.2.2.2.2.2.2.2.1.but.size A5.out.size)⟩⟩
              case measure => simp [intOf]; omega
        · have hne : ((TL.length : Int) != (p.st.length : Int)) = true := by
            have e : ¬ (TL.length : Int) = (p.st.length : Int) := by omega
            simpa using e
          obtain ⟨fa, fc, sa, sc, fws, hx⟩ := H3.out.1.ex
          have HTk := hideIt (tick_arg (ta := ao) (tc := co) hx.at0 (by rw [hx.len]; exact hx.ok.f1) (by rw [HX.out.2.1]; exact hlen))
          clear hx hlen
          go_wp2_with fail
          refine HTk.out.mono ?_
          rintro e w4 ⟨rfl, af4⟩
          have c1 := blk_cell ((af4.block gp (blk_lt HGp.out) (fun t => t)).trans HGp.out) (i := 1) rfl
          have H4 := hideIt (And.intro (H3.out.1.after af4) (And.intro (H13.out.2.trans af4) (Nat.le_trans H13.out.1 af4.size)))
          clear af4 HTk
          go_wp2_with fail
          go_roundw
          case rel => exact ⟨j + 1, m, by omega, by omega, by omega, by go_num, rfl, ⟨o3, x, lv, H4.out.1, HX.out.1, HX.out.2.1, HX.out.2.2.1, H4.out.2.1, H4.out.2.2⟩⟩
          case measure => simp [intOf]; omega
      · obtain ⟨o, x, lv, _, _, _, _, ar, _⟩ := ls
        have AR := hideIt (A1.out.trans ar)
        have hdd : (j < ks.length ∧ ¬ j < 40) ∨ ¬ j < ks.length := by omega
        clear ar hgo
        rcases hdd with ⟨q1, q2⟩ | q1
        · have i3 : (j : Int) < (ks.length : Int) := by omega
          have i4 : ¬ (j : Int) < 40 := by omega
          go_wp2_with fail
          go_ret
          exact ⟨rfl, AR.out⟩
        · have i3 : ¬ (j : Int) < (ks.length : Int) := by omega
          go_wp2_with fail
          go_ret
          exact ⟨rfl, AR.out⟩
  · have HN := hideIt (pl_no (HP.out.1.after A1.out) (by decide) hok)
    generalize p.chk = Xc at *
    have hx : (Xc != 0) = true := by simpa using hok
    clear hok
    go_wp2_with fail
    refine HN.out.mono ?_
    rintro e w2 ⟨rfl, af2⟩
    have A2 := hideIt (A1.out.trans af2)
    clear af2
    go_wp2_with fail
    go_ret
    exact ⟨rfl, A2.out⟩
end Go.Proofs.Ytkjjjibglaffnaa
