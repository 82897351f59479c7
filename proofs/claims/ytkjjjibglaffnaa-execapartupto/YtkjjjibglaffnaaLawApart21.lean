/-
  ExecApart: the walk.
-/
import Derived.Test.YtkjjjibglaffnaaApE
namespace Go.Proofs.Ytkjjjibglaffnaa
open Go.RowKit
set_option maxRecDepth 8000
/-- A tick's lists lie below where all that is made begins. -/
theorem Tc.Fits.lies {w : World} {N B : Nat} {t : Tc} (h : t.Fits w N) (hB : w.heap.size ≤ B) : t.Low B :=
  ⟨fun z hz hn => by
    obtain ⟨b, off, e, hb⟩ := h.1.lt hn
    rw [hz] at e
    cases e
    show b < B
    omega, fun f hf z hz hn => by
    obtain ⟨b, off, e, hb⟩ := (h.2.2 f hf).1.lt hn
    rw [hz] at e
    cases e
    show b < B
    omega⟩
theorem brought_lt (i : Int) {m : Nat} (hm : 0 < m) : broughtTo i m < m := by
  unfold broughtTo
  have := Int.emod_lt_of_pos i (show (0 : Int) < (m : Int) by omega)
  have := Int.emod_nonneg i (show (m : Int) ≠ 0 by omega)
  omega
/-- Both execs, and the array of the partitions that lead to one. -/
def Prx (B : Nat) (w : World) (S : Int → Bool) (p : Pl) (q1 q2 ga : Nat) (R : Nat → Bool) : Prop :=
  ∃ o1 x1 lv1 o2 x2 lv2, Xe B w q1 o1 x1 lv1 ∧ Xe B w q2 o2 x2 lv2 ∧ Crs o1 o2 ∧ Com S p x1 x2 ∧ w.heap[ga]? = some (.cells (baC R) 52 (0, 0)) ∧ o1 ga = 0 ∧ o2 ga = 0
/-- What the second one's tasks do: where links lead from it is the same. -/
def Oth (R : Nat → Bool) (tl zs ods : List Dr) (k : Nat) : Prop := ods.length = k ∧ (∀ m, m < k → R m = true → ods[m]? = tl[m]?) ∧ ∀ d ∈ ods, d ∈ tl ∨ d ∈ zs
theorem Oth.add {R : Nat → Bool} {tl zs ods : List Dr} {k : Nat} (h : Oth R tl zs ods k) {d : Dr} (hd : d ∈ tl ∨ d ∈ zs) (hR : R k = true → tl[k]? = some d) : Oth R tl zs (ods ++ [d]) (k + 1) := by
  obtain ⟨h1, h2, h3⟩ := h
  refine ⟨by rw [List.length_append, h1]; rfl, fun m hm hr => ?_, fun z hz => ?_⟩
  · rcases Nat.lt_or_ge m k with hl | hl
    · rw [List.getElem?_append_left (by omega)]; exact h2 m hl hr
    · obtain rfl : m = k := by omega
      rw [List.getElem?_append_right (by omega), h1, Nat.sub_self, hR hr]; rfl
  · rcases List.mem_append.1 hz with hz | hz
    · exact h3 z hz
    · obtain rfl := List.mem_singleton.1 hz
      exact hd
theorem Try.infoDr : (Try.prog.info? 54).map (fun i => (i.zero, i.size, i.bytes)) = some (some (.slice none 0 0), 1, 24) := by kernel_rfl
theorem prx_after {B : Nat} {w w' : World} {S : Int → Bool} {p : Pl} {q1 q2 ga : Nat} {R : Nat → Bool} (h : Prx B w S p q1 q2 ga R) (a : After w w') : Prx B w' S p q1 q2 ga R := by
  obtain ⟨o1, x1, lv1, o2, x2, lv2, X, Y, c, k, g, z⟩ := h
  exact ⟨o1, x1, lv1, o2, x2, lv2, X.after a, Y.after a, c, k, (a.block ga (blk_lt g) (fun t => t)).trans g, z⟩
set_option maxHeartbeats 16000000 in
theorem law_apart21 (w : World) (p : Pl) (ta : Option Addr) (tc : Nat) (ks : List Tc) (to : Int) (oa : Option Addr) (oc : Nat) (zs : List Dr) (hp : p.Fits w 1048576) (ht : GRow tcE w ta ks.length ks) (hk : ∀ t ∈ ks, t.Fits w 1048576) (hn : ks.length ≤ 1048576) (hz : GRow drE w oa zs.length zs ∧ (∀ d ∈ zs, d.Fits w 1048576) ∧ zs.length ≤ 1048576) (hto : -9223372036854775808 ≤ to ∧ to ≤ 9223372036854775807) :
    Calls Try.prog 5 #[.agg p.cs, .slice ta ks.length tc, .agg #[.int .i64 to, .slice oa zs.length oc]] w fun e w' => e = .returned (.bool true) ∧ After w w' := by
  obtain ⟨gp, hgp⟩ : ∃ g, g = w.heap.size := ⟨_, rfl⟩
  obtain ⟨W0, hW0⟩ : ∃ W, W = (w.alloc (.cells p.cs 26)).alloc (.cells #[.int .i64 to, .slice oa zs.length oc] 51) := ⟨_, rfl⟩
  have hs0 : (w.alloc (.cells p.cs 26)).heap.size = w.heap.size + 1 := by simp
  have a0 : After w W0 := by rw [hW0]; exact (After.rfl.alloc _).alloc _
  have hb0 : W0.heap[gp]? = some (.cells p.cs 26 (0, 0)) := by rw [hW0, hgp]; exact ((After.rfl.alloc _).block _ (by rw [hs0]; omega) (fun t => t)).trans (heap_alloc_new w _)
  have hb1 : W0.heap[gp + 1]? = some (.cells #[.int .i64 to, .slice oa zs.length oc] 51 (0, 0)) := by rw [hW0, hgp, ← hs0]; exact heap_alloc_new _ _
  have HW := hideIt (And.intro hW0 hgp)
  have HP := hideIt (And.intro hp (And.intro ht (And.intro hk hz)))
  have HB := hideIt (And.intro a0 (And.intro hb0 hb1))
  have HTo := hideIt hto
  have i0 : (ks.length : Int) ≤ 1048576 := by omega
  have i1 : (zs.length : Int) ≤ 1048576 := by have := hz.2.2; omega
  have i2 : (p.st.length : Int) ≤ 1048576 := by have := hp.n2; omega
  have HA := hideIt (awake_any W0)
  clear hp ht hk hn hz hto a0 hb0 hb1 hW0 hgp hs0
  go_enter Try.func5, Try.ntmps5
  go_wp2_with fail
  rw [← HW.out.1, ← HW.out.2]
  refine HA.out.mono ?_
  rintro e w1 ⟨rfl, af1⟩
  have A1 := hideIt (HB.out.1.trans af1)
  have g1 := (af1.block gp (blk_lt HB.out.2.1) (fun t => t)).trans HB.out.2.1
  have g2 := (af1.block (gp + 1) (blk_lt HB.out.2.2) (fun t => t)).trans HB.out.2.2
  have HG := hideIt (And.intro g1 g2)
  have c0 := blk_cell g1 (i := 0) rfl
  have c1 := blk_cell g1 (i := 1) rfl
  have c2 := blk_cell g1 (i := 2) rfl
  clear af1 g1 g2 HA
  by_cases hok : p.chk = 0
  · have HN := hideIt (pl_ok (HP.out.1.after A1.out) hok)
    go_wp2_with fail
    refine HN.out.mono ?_
    rintro e w2 ⟨q1, o1, lv1, rfl, X, af2⟩
    have HX := hideIt (And.intro X af2)
    have c0 := cell_but af2 (blk_lt HG.out.1) (fun t => t) c0
    have c1 := cell_but af2 (blk_lt HG.out.1) (fun t => t) c1
    have c2 := cell_but af2 (blk_lt HG.out.1) (fun t => t) c2
    have HN2 := hideIt (pl_ok (HP.out.1.after (A1.out.trans af2)) hok)
    clear X af2 HN
    go_wp2_with fail
    refine HN2.out.mono ?_
    rintro e w3 ⟨q2, o2, lv2, rfl, Y, af3⟩
    have HXY := hideIt (two_xe HX.out.1 af3 HX.out.2.size rfl Y)
    have A3 := hideIt (HX.out.2.trans af3)
    have h1 := (A3.out.block gp (blk_lt HG.out.1) (fun t => t)).trans HG.out.1
    have h2 := (A3.out.block (gp + 1) (blk_lt HG.out.2) (fun t => t)).trans HG.out.2
    have c0 := blk_cell h1 (i := 0) rfl
    have c1 := blk_cell h1 (i := 1) rfl
    have c2 := blk_cell h1 (i := 2) rfl
    have d0 := blk_cell h2 (i := 0) rfl
    have ok := chk_ok hok
    have hst : 1 ≤ p.st.length ∧ p.st.length ≤ 8 := ⟨ok.s1, ok.s2⟩
    have HBr := hideIt (bring_any to p.st.length w3 HTo.out.1 HTo.out.2 (by omega) (by omega))
    have HOk := hideIt (And.intro hok ok)
    clear Y af3 HN2 h1 h2 ok hok
    go_wp2_with fail
    refine HBr.out.mono ?_
    rintro e w4 ⟨rfl, hw⟩
    obtain rfl := hw.symm
    clear hw HBr
    have hq : broughtTo to p.st.length < p.st.length := brought_lt to (by omega)
    generalize broughtTo to p.st.length = qn at *
    have hlk : ∀ z ∈ p.lk, (0 ≤ z.1 ∧ z.1 < 8) ∧ (0 ≤ z.2 ∧ z.2 < 8) := fun z hz => by
      have := HOk.out.2.ls z (by rw [skel_mkL]; exact hz)
      have h8 := hst.2
      have e1 : (({ fr := p.fr, st := p.st, L := mkL p.lk, at_ := 0 } : Xp).st.length : Int) = (p.st.length : Int) := rfl
      omega
    have hl16 : p.lk.length ≤ 16 := by have := HOk.out.2.l2; rw [← mkL_len]; exact this
    have HR := hideIt (reaches_any (lc := p.lc) (HP.out.1.rl.after (A1.out.trans A3.out)) hl16 hlk (show qn < 8 by omega))
    have HLk := hideIt (And.intro hlk hl16)
    have HQ := hideIt hq
    clear hlk hl16 hq
    go_wp2_with fail
    refine HR.out.mono ?_
    rintro e w5 ⟨rfl, af5⟩
    obtain ⟨ga, hga⟩ : ∃ g, g = w5.heap.size := ⟨_, rfl⟩
    obtain ⟨R, hR⟩ : ∃ R, R = rch p.lk qn := ⟨_, rfl⟩
    rw [← hR]
    have H5 := hideIt (And.intro af5 (And.intro hga hR))
    clear af5 hga hR HR c0 c1 c2 d0
    go_wp2_with fail
    obtain ⟨B, hB⟩ : ∃ B, B = w1.heap.size := ⟨_, rfl⟩
    have hshut : Shut (fun z => R z.toNat) p.lk := by
      rw [H5.out.2.2]
      exact rch_shut (fun z hz => by have := HLk.out.1 z hz; omega) qn
    have hRq : R qn = true := by rw [H5.out.2.2]; exact rch_to ..
    have hP0 : Prx B (w5.alloc (.cells (baC R) 52)) (fun z => R z.toNat) p q1 q2 ga R := by
      obtain ⟨p1, p2, X1, X2, cr⟩ := HXY.out
      have aA : After w3 (w5.alloc (.cells (baC R) 52)) := H5.out.1.alloc _
      have hge : w3.heap.size ≤ ga := by rw [H5.out.2.1]; exact H5.out.1.size
      refine ⟨p1, p.xp, lv1, p2, p.xp, lv2, by rw [hB]; exact X1.after aA, by rw [hB]; exact X2.after aA, cr, ⟨rfl, rfl, rfl, rfl, Sam.rfl, ?_⟩, by rw [H5.out.2.1]; exact heap_alloc_new _ _, free_of X1.bnd hge, free_of X2.bnd hge⟩
      show Shut _ (skel (mkL p.lk))
      rw [skel_mkL]
      exact hshut
    have HPx := hideIt (And.intro hP0 (show After w1 (w5.alloc (.cells (baC R) 52)) from A3.out.trans (H5.out.1.alloc _)))
    have HBB := hideIt (And.intro hB (And.intro hRq (show w.heap.size ≤ B by rw [hB]; exact A1.out.size)))
    clear hB hshut hRq hP0
    rw [← H5.out.2.1]
    go_loopw [13] (fun iv wr => ∃ j : Nat, j ≤ ks.length ∧ j ≤ 20 ∧ iv = .int .i64 j ∧ Prx B wr (fun z => R z.toNat) p q1 q2 ga R ∧ After w1 wr) (fun iv _ => 20 - (intOf iv).toNat)
    case atStart => exact ⟨0, Nat.zero_le _, Nat.zero_le _, rfl, HPx.out⟩
    case round =>
      clear HPx
      obtain ⟨j, hj, hj2, rfl, px, aw1⟩ := hrel
      have aw := A1.out.trans aw1
      by_cases hgo : j < ks.length ∧ j < 20
      · obtain ⟨hjn, hj20⟩ := hgo
        have i3 : (j : Int) < (ks.length : Int) := by omega
        have i4 : (j : Int) < 20 := by omega
        obtain ⟨tb, tf, ⟨tA, tC, tL⟩, rfl, htb, htj, t0⟩ := tc_at (HP.out.2.1.after aw) hjn
        have htf := HP.out.2.2.1 ⟨tA, tC, tL⟩ (List.mem_of_getElem? htj)
        dsimp only at t0
        have h1 := (aw1.block gp (blk_lt HG.out.1) (fun t => t)).trans HG.out.1
        have h2 := (aw1.block (gp + 1) (blk_lt HG.out.2) (fun t => t)).trans HG.out.2
        have c1 := blk_cell h1 (i := 1) rfl
        have d1 := blk_cell h2 (i := 1) rfl
        have lg := blk_lt h1
        have HR0 := hideIt (And.intro px (And.intro aw1 (And.intro aw (And.intro htf (And.intro h1 (And.intro h2 (And.intro htb t0)))))))
        have i5 : (tL.length : Int) ≤ 1048576 := by have := htf.2.1; dsimp only at this; omega
        clear px aw1 aw htf htj h1 h2
        by_cases hlen : tL.length = p.st.length
        · have hne : ((tL.length : Int) != (p.st.length : Int)) = false := by rw [hlen]; simp
          go_wp2_with fail
          go_region
          clear c1 d1 t0 lg
          go_wp2_with fail
          obtain ⟨U, hU⟩ : ∃ U, U = wr := ⟨_, rfl⟩
          have HU := hideIt (show After U wr.drew by rw [hU]; exact But.drew But.rfl)
          subst hU
          go_loopw [14, 15] (fun vo iv wv => ∃ (k : Nat) (ods : List Dr), k ≤ p.st.length ∧ iv = .int .i64 k ∧ After U wv ∧ ORow drE 54 wv U.heap.size vo ods ∧ Oth R tL zs ods k) (fun _ iv _ => p.st.length - (intOf iv).toNat)
          case atStart => exact ⟨0, [], Nat.zero_le _, rfl, HU.out, orow_nil _ _ _ _, rfl, fun m hm => (by omega), fun d hd => (by cases hd)⟩
          case round =>
            clear HU
            obtain ⟨k, ods, hk, rfl, av, ov, oth⟩ := hrel
            have h1 := (av.block gp (blk_lt HR0.out.2.2.2.2.1) (fun t => t)).trans HR0.out.2.2.2.2.1
            have h2 := (av.block (gp + 1) (blk_lt HR0.out.2.2.2.2.2.1) (fun t => t)).trans HR0.out.2.2.2.2.2.1
            have c1 := blk_cell h1 (i := 1) rfl
            have d1 := blk_cell h2 (i := 1) rfl
            have t0 := cell_but av HR0.out.2.2.2.2.2.2.1 (fun t => t) HR0.out.2.2.2.2.2.2.2
            have lg := blk_lt h1
            have lg := blk_lt h1
            have lg := blk_lt h1
            have lg := blk_lt h1
            have lg := blk_lt h1
            have lg := blk_lt h1
            have lg := blk_lt h1
            have lg := blk_lt h1
            have lg := blk_lt h1
            have lg := blk_lt h1
            by_cases hkn : k < p.st.length
            · have i6 : (k : Int) < (p.st.length : Int) := by omega
              have i7 : (k : Int) < (tL.length : Int) := by omega
              obtain ⟨db, df, e, rfl, hdb, he, e0⟩ := dr_at (HR0.out.2.2.2.1.1.after (HR0.out.2.2.1.trans av)) (show k < tL.length by omega)
              have k8 : k < 8 := by omega
              have ga0 : wr.heap[ga]? = some (.cells (baC R) 52 (0, 0)) := by
                obtain ⟨_, _, _, _, _, _, _, _, _, _, g, _⟩ := HR0.out.1
                exact (av.block ga (blk_lt g) (fun t => t)).trans g
              have r0 := blk_cell ga0 (baC_at R k8)
              have lga := blk_lt ga0
              have x8 := indexB8 ga k8
              have HO := hideIt oth
              have HE := hideIt he
              have HN8 := hideIt (show ods.length ≤ 8 by rw [oth.1]; omega)
              obtain ⟨avo, cvo, evo, _⟩ := ov.row
              subst evo
              have HV := hideIt (And.intro av ov)
              have i8 : (j : Int) + (k : Int) ≤ 100 := by omega
              clear h1 h2 av ov oth he hdb ga0
              rcases hRk : R k with _ | _
              · rw [hRk] at r0
                by_cases hz0 : 0 < zs.length
                · have i9 : (0 : Int) < (zs.length : Int) := by omega
                  have i10 : ¬ (zs.length : Int) = 0 := by omega
                  obtain ⟨r, hr⟩ : ∃ r, r = (j + k) % zs.length := ⟨_, rfl⟩
                  have hrl : r < zs.length := by rw [hr]; exact Nat.mod_lt _ hz0
                  have i11 : (r : Int) < (zs.length : Int) := by omega
                  have hmod : ((j : Int) + (k : Int)) % (zs.length : Int) = (r : Int) := by rw [hr]; simp
                  have hmod2 : ((j : Int) + (k : Int)).tmod (zs.length : Int) = (r : Int) := by rw [Int.tmod_eq_emod_of_nonneg (by omega)]; exact hmod
                  obtain ⟨zb, zf, e2, rfl, hzb, he2, z0⟩ := dr_at (HP.out.2.2.2.1.after ((A1.out.trans HR0.out.2.1).trans HV.out.1)) hrl
                  have HE2 := hideIt he2
                  clear hr he2 hzb
                  go_wp2_with fail
                  go_region
                  have HV := hideIt (And.intro (HV.out.1.trans (But.drew But.rfl)) (own_after HV.out.2 (But.drew But.rfl)))
                  clear c1 d1 t0 e0 r0 z0 x8 lga
                  go_wp2_with (at_builtin; go_must (refine app_row (E := drE) rfl (.tmp 117) (.tmp 119) 36 54 Try.underlying36 Try.infoDr rfl (by decide) rfl U.heap.size _ ods rfl (own_after HV.out.2 (After.rfl.alloc _)) (some ⟨wr.heap.size, 0, none⟩) 1 1 [e2] rfl (lit_row (heap_alloc_new wr.drew _) rfl rfl) (fun e => by cases e) (by have := HN8.out; unfold maxLen; omega) (by have := HN8.out; omega) (HV.out.1.alloc _).size ?_))
                  intro v2 w2 o2 b2
                  have H2 := hideIt (And.intro o2 (show After U w2 from (HV.out.1.alloc _).then b2 (fun kk hk ee => by have := ((own_after HV.out.2 (After.rfl.alloc (.cells #[.slice e2.a e2.l.length e2.c] 54))).lt kk ee).1; omega)))
                  clear o2 b2
                  go_wp2_with fail
                  go_roundw
                  case rel => exact ⟨k + 1, ods ++ [e2], by omega, by go_num, H2.out.2, H2.out.1, HO.out.add (.inr (List.mem_of_getElem? HE2.out)) (fun hh => by rw [hRk] at hh; cases hh)⟩
                  case measure => simp [intOf]; omega
                · have i9 : ¬ (0 : Int) < (zs.length : Int) := by omega
                  go_wp2_with (at_builtin; go_must (refine app_row (E := drE) rfl (.tmp 117) (.tmp 119) 36 54 Try.underlying36 Try.infoDr rfl (by decide) rfl U.heap.size _ ods rfl (own_after HV.out.2 (After.rfl.alloc _)) (some ⟨wr.heap.size, 0, none⟩) 1 1 [e] rfl (lit_row (heap_alloc_new wr _) rfl rfl) (fun e => by cases e) (by have := HN8.out; unfold maxLen; omega) (by have := HN8.out; omega) (HV.out.1.alloc _).size ?_))
                  intro v2 w2 o2 b2
                  have H2 := hideIt (And.intro o2 (show After U w2 from (HV.out.1.alloc _).then b2 (fun kk hk ee => by have := ((own_after HV.out.2 (After.rfl.alloc (.cells #[.slice e.a e.l.length e.c] 54))).lt kk ee).1; omega)))
                  clear o2 b2
                  go_wp2_with fail
                  go_roundw
                  case rel => exact ⟨k + 1, ods ++ [e], by omega, by go_num, H2.out.2, H2.out.1, HO.out.add (.inl (List.mem_of_getElem? HE.out)) (fun hh => by rw [hRk] at hh; cases hh)⟩
                  case measure => simp [intOf]; omega
              · rw [hRk] at r0
                go_wp2_with (at_builtin; go_must (refine app_row (E := drE) rfl (.tmp 117) (.tmp 119) 36 54 Try.underlying36 Try.infoDr rfl (by decide) rfl U.heap.size _ ods rfl (own_after HV.out.2 (After.rfl.alloc _)) (some ⟨wr.heap.size, 0, none⟩) 1 1 [e] rfl (lit_row (heap_alloc_new wr _) rfl rfl) (fun e => by cases e) (by have := HN8.out; unfold maxLen; omega) (by have := HN8.out; omega) (HV.out.1.alloc _).size ?_))
                intro v2 w2 o2 b2
                have H2 := hideIt (And.intro o2 (show After U w2 from (HV.out.1.alloc _).then b2 (fun kk hk ee => by have := ((own_after HV.out.2 (After.rfl.alloc (.cells #[.slice e.a e.l.length e.c] 54))).lt kk ee).1; omega)))
                clear o2 b2
                go_wp2_with fail
                go_roundw
                case rel => exact ⟨k + 1, ods ++ [e], by omega, by go_num, H2.out.2, H2.out.1, HO.out.add (.inl (List.mem_of_getElem? HE.out)) (fun _ => HE.out)⟩
                case measure => simp [intOf]; omega
            · have i6 : ¬ (k : Int) < (p.st.length : Int) := by omega
              obtain rfl : k = p.st.length := by omega
              have HO := hideIt oth
              have hod : ods.length = p.st.length := oth.1
              obtain ⟨avo, cvo, evo, rvo, _, bvo⟩ := ov.row
              subst evo
              obtain ⟨o1, x1, lv1, o2, x2, lv2, X, Y, cr, com, hga, z1, z2⟩ := HR0.out.1
              have htw := HR0.out.2.2.2.1.after (HR0.out.2.2.1.trans av)
              have hlow : (⟨tA, tC, tL⟩ : Tc).Low B := HR0.out.2.2.2.1.lies HBB.out.2.2
              have X' := X.after av
              have Y' := Y.after av
              have hBw : B ≤ wr.heap.size := by rw [HBB.out.1]; exact Nat.le_trans HR0.out.2.1.size av.size
              have zero1 : ∀ z : Nat, z < B → o1 z = 0 := fun z hz => by
                rcases Nat.eq_zero_or_pos (o1 z) with e | e
                · exact e
                · have := X.base z (by omega); omega
              have hfo : ∀ d ∈ ods, d.Fits wr 1048576 ∧ d.Lw B := fun d hd => by
                rcases oth.2.2 d hd with hd | hd
                · exact ⟨htw.2.2 d hd, hlow.d d hd⟩
                · have h3 := HP.out.2.2.2.2.1 d hd
                  refine ⟨h3.after (HR0.out.2.2.1.trans av), fun z hz hn => ?_⟩
                  have := h3.1.blt hn hz
                  have := HBB.out.2.2
                  omega
              have HT1 := hideIt (x_tasks X' hBw (show 1048576 ≤ 4000000 by decide) htw (fun z hz hn => zero1 _ (hlow.a z hz hn)) (fun e he z hz hn => zero1 _ (hlow.d e he z hz hn)))
              have HA := hideIt (And.intro X' (And.intro Y' (And.intro cr (And.intro com (And.intro hBw (And.intro rvo (And.intro bvo (And.intro hfo (And.intro X.bnd (And.intro Y.bnd htw))))))))))
              have HLen := hideIt (And.intro hlen hod)
              clear hlen hod
              have HG2 := hideIt (show (wr.heap[ga]? = some (.cells (baC R) 52 (0, 0)) ∧ o1 ga = 0 ∧ o2 ga = 0) ∧ After w1 wr from ⟨⟨(av.block ga (blk_lt hga) (fun t => t)).trans hga, z1, z2⟩, HR0.out.2.1.trans av⟩)
              clear h1 h2 av oth ov rvo bvo X Y cr com hga z1 z2 htw hlow X' Y' hBw zero1 hfo
              go_wp2_with fail
              refine HT1.out.mono ?_
              rintro e w6 hm6
              obtain ⟨X', Y', cr, com, hBw, rvo, bvo, hfo, bu1, bu2, htw⟩ := HA.out
              obtain ⟨TL, ao, co, aw, cw, p1, p2, rfl, s1, Y6, c6, hd1, b6, kp6, C2⟩ := ap_second (cvo := cvo) X' Y' cr hBw bu1 bu2 rvo bvo hfo (by have := HLen.out.2; have := hst.2; omega) hm6
              have HTl := hideIt (show TL.length = p.st.length by have := tl_len hd1; rw [this]; exact HLen.out.1)
              have H6 := hideIt (And.intro s1 (And.intro Y6 (And.intro c6 (And.intro hd1 (And.intro b6 (And.intro kp6 (And.intro com (And.intro hBw htw))))))))
              have HC2 := hideIt C2
              have hfit1 := hideIt (fit_list hd1 (fun d hd => (htw.2.2 d hd).2))
              have hfit2 := hideIt (show ∀ d ∈ ods, d.l.length ≤ 1048576 ∧ ∀ x ∈ d.l, -9223372036854775808 ≤ x.k ∧ x.k ≤ 9223372036854775807 from fun d hd => (hfo d hd).1.2)
              clear X' Y' cr com hBw rvo bvo hfo bu1 bu2 htw s1 Y6 c6 hd1 b6 kp6 C2 hm6 HT1 HA c1 d1 t0 lg
              go_wp2_with fail
              refine HC2.out.mono ?_
              rintro e w7 hm7
              obtain ⟨s1, Y6, c6, hd1, b6, kp6, com, hBw, htw⟩ := H6.out
              have hB6 : B ≤ w6.heap.size := Nat.le_trans hBw b6.size
              obtain ⟨TL2, ao2, co2, aw2, cw2, r1, r2, rfl, s1, s2, c7, hd2, b7, kp7⟩ := ap_t2 s1 (by have := HTl.out; omega) Y6 c6 hB6 hm7
              have hB7 : B ≤ w7.heap.size := Nat.le_trans hB6 b7.size
              have HTl2 := hideIt (show TL2.length = p.st.length by have := tl_len hd2; rw [this]; exact HLen.out.2)
              have HK1 := hideIt (s1.tick hB7 (by rw [HTl.out, com.st1]) hfit1.out)
              have H7 := hideIt (And.intro s1 (And.intro s2 (And.intro c7 (And.intro hd1 (And.intro hd2 (And.intro (b6.trans b7) (And.intro (kp6.trans b6.size kp7) (And.intro com (And.intro hB7 htw)))))))))
              clear s1 Y6 c6 hd1 b6 kp6 com hBw htw hB6 s2 c7 hd2 b7 kp7 hB7 hm7 H6 HC2
              go_wp2_with fail
              refine HK1.out.mono ?_
              rintro e w8 hm8
              obtain ⟨s1, s2, c7, hd1, hd2, b7, kp7, com, hB7, htw⟩ := H7.out
              obtain ⟨va, t1, t2, rfl, F1, s2, c8, b8, kp8⟩ := ap_k1 s1 s2 (by have := HTl2.out; omega) c7 hB7 hm8
              have hB8 : B ≤ w8.heap.size := Nat.le_trans hB7 b8.size
              have HK2 := hideIt (s2.tick hB8 (by rw [HTl2.out, ← com.st, com.st1]) (fit_list hd2 hfit2.out))
              have H8 := hideIt (And.intro F1 (And.intro s2 (And.intro c8 (And.intro hd1 (And.intro hd2 (And.intro (b7.trans b8) (And.intro (kp7.trans b7.size kp8) (And.intro com (And.intro hB8 (And.intro htw s1.X.ok))))))))))
              clear s1 s2 c7 hd1 hd2 b7 kp7 com hB7 htw F1 c8 b8 kp8 hB8 hm8 H7 HK1
              go_wp2_with fail
              refine HK2.out.mono ?_
              rintro e w9 hm9
              obtain ⟨F1, s2, c8, hd1, hd2, b8, kp8, com, hB8, htw, okx⟩ := H8.out
              obtain ⟨vb, v1, v2, rfl, F1, F2, c9, b9, kp9⟩ := ap_k2 F1 s2 c8 hB8 hm9
              have hDS : ∀ z : Int, 0 ≤ z → (fun z : Int => R z.toNat) z = true → DSof TL z.toNat = DSof TL2 z.toNat := fun z hz hr => by
                rw [dsof_eq (t := ⟨tA, tC, tL⟩) hd1, dsof_eq (t := ⟨avo, cvo, ods⟩) hd2]
                unfold dsT
                simp only [List.getD_eq_getElem?_getD, List.getElem?_map]
                rcases Nat.lt_or_ge z.toNat p.st.length with hl | hl
                · rw [HO.out.2.1 z.toNat hl hr]
                · rw [List.getElem?_eq_none (show ods.length ≤ z.toNat by have := HLen.out.2; omega), List.getElem?_eq_none (show tL.length ≤ z.toNat by have := HLen.out.1; omega)]
              obtain ⟨com9, han, hhe, hln⟩ := com.tick hDS (q := (qn : Int)) (by omega) (by show R (qn : Int).toNat = true; rw [Int.toNat_natCast]; exact HBB.out.2.1) okx
              have hhl := run_heard okx (DS := DSof TL) (fun i => by rw [dsof_eq (t := ⟨tA, tC, tL⟩) hd1]; exact dsT_len (fun d hd => (htw.2.2 d hd).2.1) _ _ i) qn
              have hbt : ∀ k, TL[qn]? = some (some k) → ∃ k2, TL2[qn]? = some (some k2) := fun k hk => both_task hd1 hd2 (HO.out.2.1 qn HQ.out HBB.out.2.1) F1.ne hk
              have hgaw := kp8.trans b8.size kp9 ga (blk_lt HG2.out.1.1) HG2.out.1.2.1 HG2.out.1.2.2
              have haw9 : After w1 w9 := HG2.out.2.then (b8.trans b9) (fun k hk s => by have s : B ≤ k := s; have := HBB.out.1; omega)
              obtain ⟨aa, ca, ea, ra, _⟩ := F1.ra.row
              obtain ⟨ab, cb, eb, rb, _⟩ := F2.ra.row
              subst ea
              subst eb
              obtain ⟨CV1, y1⟩ := F1.sy
              obtain ⟨CV2, y2⟩ := F2.sy
              have gw1 : GRow pkE w9 aw TL.length TL := by
                obtain ⟨a, c, e, r, _⟩ := F1.rw.row
                cases e
                exact r
              have gw2 : GRow pkE w9 aw2 TL2.length TL2 := by
                obtain ⟨a, c, e, r, _⟩ := F2.rw.row
                cases e
                exact r
              have tk1 : ∀ k, TL[qn]? = some (some k) → TaIn w9 v1 qn k ((x1.run (DSof TL) (fun _ => [])).2.2 qn) (CV1 qn) := fun k hk => y1.tk qn k hk
              have tk2 : ∀ k, TL2[qn]? = some (some k) → TaIn w9 v2 qn k ((x1.run (DSof TL) (fun _ => [])).2.2 qn) (CV2 qn) := fun k hk => by
                have := y2.tk qn k hk
                rw [Int.toNat_natCast] at hhe
                rw [hhe]
                exact this
              have HPn := hideIt (show Prx B w9 (fun z => R z.toNat) p q1 q2 ga R from ⟨v1, _, lv1, v2, _, lv2, F1.X, F2.X, c9, com9, hgaw.1.trans HG2.out.1.1, hgaw.2⟩)
              generalize (x1.run (DSof TL) (fun _ => [])).2.2 qn = hh at *
              generalize (x1.run (DSof TL) (fun _ => [])).1 = l1 at *
              generalize (x2.run (DSof TL2) (fun _ => [])).1 = l2 at *
              rw [← hln] at rb ⊢
              have HRa := hideIt (And.intro ra (And.intro rb han))
              have HTk := hideIt (And.intro gw1 (And.intro gw2 (And.intro tk1 (And.intro tk2 hbt))))
              have HHl := hideIt hhl.1
              have i8 : (l1.length : Int) ≤ 8 := by have := hhl.2; omega
              have HAw := hideIt haw9
              have hnn : ((l1.length : Int) != (l1.length : Int)) = false := by simp
              clear F1 F2 c9 b9 kp9 hDS com9 han hhe hln s2 c8 hd1 hd2 b8 kp8 com hB8 htw okx hhl hbt hgaw haw9 ra rb y1 y2 gw1 gw2 tk1 tk2 hm9 H8 HK2
              go_wp2_with fail
              go_loopw [25] (fun iv wv => ∃ i : Nat, i ≤ l1.length ∧ iv = .int .i64 i ∧ After w9 wv) (fun iv _ => l1.length - (intOf iv).toNat)
              case atStart => exact ⟨0, Nat.zero_le _, rfl, After.rfl⟩
              case round =>
                obtain ⟨i, hi, rfl, a9⟩ := hrel
                by_cases hin : i < l1.length
                · have i9 : (i : Int) < (l1.length : Int) := by omega
                  obtain ⟨b1, f1, n1, rfl, hb1, hn1, d0, d1, d2, d3⟩ := an_at (HRa.out.1.after a9) hin
                  obtain ⟨b2, f2, n2, rfl, hb2, hn2, e0, e1, e2, e3⟩ := an_at (HRa.out.2.1.after a9) hin
                  obtain ⟨hp1, hp2⟩ := HRa.out.2.2 i n1 n2 hn1 hn2
                  have A9 := hideIt a9
                  rw [← hp1] at e0
                  have q1 : (n1.p != n1.p) = false := by simp
                  clear a9 hn1 hn2 hb1 hb2
                  by_cases hpq : n1.p = (qn : Int)
                  · have := hp2 hpq
                    subst this
                    have q2 : (n1.p == (qn : Int)) = true := by simpa using hpq
                    have q3 : (n1.t.u != n1.t.u) = false := by simp
                    have q4 : (n1.t.ov != n1.t.ov) = false := by simp
                    have q5 : (n1.t.fa != n1.t.fa) = false := by simp
                    have q6 : (n1.p == n1.p) = true := by simp
                    have q7 : (n1.t.u == n1.t.u) = true := by simp
                    have q8 : (n1.t.ov == n1.t.ov) = true := by simp
                    have q9 : (n1.t.fa == n1.t.fa) = true := by simp
                    clear hp1 hp2 hpq
                    go_wp2_with fail
                    go_quiet (fail)
                    go_wp2_with fail
                    go_roundw
                    case rel => exact ⟨i + 1, by omega, by go_num, A9.out.draws nq⟩
                    case measure => simp [intOf]; omega
                  · have q2 : (n1.p == (qn : Int)) = false := by simpa using hpq
                    clear hp1 hp2 hpq
                    go_wp2_with fail
                    go_quiet (fail)
                    go_wp2_with fail
                    go_roundw
                    case rel => exact ⟨i + 1, by omega, by go_num, A9.out.draws nq⟩
                    case measure => simp [intOf]; omega
                · have i9 : ¬ (i : Int) < (l1.length : Int) := by omega
                  have A9 := hideIt a9
                  clear a9
                  have hqt : qn < TL.length := by rw [HTl.out]; exact HQ.out
                  have hqt2 : qn < TL2.length := by rw [HTl2.out]; exact HQ.out
                  have i10 : (qn : Int) < (TL.length : Int) := by omega
                  have i11 : (qn : Int) < (TL2.length : Int) := by omega
                  have i12 : (TL.length : Int) ≤ 8 := by have := HTl.out; have := hst.2; omega
                  have i13 : (TL2.length : Int) ≤ 8 := by have := HTl2.out; have := hst.2; omega
                  obtain ⟨b3, f3, k1, rfl, hb3, hk1, c0⟩ := pk_at HTk.out.1 hqt
                  obtain ⟨b4, f4, k2, rfl, hb4, hk2, e0⟩ := pk_at HTk.out.2.1 hqt2
                  have c0 := cell_but A9.out hb3 (fun t => t) c0
                  have e0 := cell_but A9.out hb4 (fun t => t) e0
                  clear hb3 hb4 hqt hqt2
                  cases k1 with
                  | none =>
                    change wr.cell? ⟨b3, f3 + qn, none⟩ = some (.pointer none) at c0
                    clear hk1 hk2 e0
                    go_wp2_with fail
                    go_quiet (fail)
                    go_wp2_with fail
                    go_roundw
                    case rel => exact ⟨j + 1, by omega, by omega, by go_num, prx_after HPn.out (A9.out.draws nq), HAw.out.trans (A9.out.draws nq)⟩
                    case measure => simp [intOf]; omega
                  | some k1 =>
                    obtain ⟨k2', hk2'⟩ := HTk.out.2.2.2.2 k1 hk1
                    rw [hk2] at hk2'
                    cases hk2'
                    obtain ⟨vh1, tx1⟩ := HTk.out.2.2.1 k1 hk1
                    obtain ⟨vh2, tx2⟩ := HTk.out.2.2.2.1 _ hk2
                    change wr.cell? ⟨b3, f3 + qn, none⟩ = some (Ptr k1.t) at c0
                    change wr.cell? ⟨b4, f4 + qn, none⟩ = some (Ptr k2'.t) at e0
                    have g1 := (A9.out.block k1.t (blk_lt tx1.at0) (fun t => t)).trans tx1.at0
                    have g2 := (A9.out.block k2'.t (blk_lt tx2.at0) (fun t => t)).trans tx2.at0
                    have w1' : ORow heE 69 wr 0 vh1 hh := own_after tx1.own A9.out
                    have w2' : ORow heE 69 wr 0 vh2 hh := own_after tx2.own A9.out
                    obtain ⟨ah1, ch1, eh1, rh1, _⟩ := w1'.row
                    obtain ⟨ah2, ch2, eh2, rh2, _⟩ := w2'.row
                    subst eh1
                    subst eh2
                    have y1 := blk_cell g1 (i := 1) rfl
                    have y2 := blk_cell g2 (i := 1) rfl
                    have l1' := blk_lt g1
                    have l2' := blk_lt g2
                    have HQh := hideIt (show ∀ n, Calls Try.prog 17 #[.slice ah1 hh.length ch1, .slice ah2 hh.length ch2] (wr.drewN n) fun e w' => e = .returned (.bool true) ∧ ∃ m, w' = (wr.drewN n).drewN m from fun n => heards_q (rh1.after (After.draws After.rfl n)) (rh2.after (After.draws After.rfl n)) (by have := HHl.out; omega))
                    clear hk1 hk2 tx1 tx2 g1 g2 w1' w2' rh1 rh2
                    go_wp2_with fail
                    go_quiet (first | (go_at_call 17; refine Calls.quiet_of (HQh.out _)))
                    go_wp2_with fail
                    go_roundw
                    case rel => exact ⟨j + 1, by omega, by omega, by go_num, prx_after HPn.out (A9.out.draws nq), HAw.out.trans (A9.out.draws nq)⟩
                    case measure => simp [intOf]; omega
        · have hne : ((tL.length : Int) != (p.st.length : Int)) = true := by
            have e : ¬ (tL.length : Int) = (p.st.length : Int) := by omega
            simpa using e
          go_wp2_with fail
          go_region
          go_wp2_with fail
          go_roundw
          case rel => exact ⟨j + 1, by omega, by omega, by go_num, prx_after HR0.out.1 (But.drew But.rfl), HR0.out.2.1.trans (But.drew But.rfl)⟩
          case measure => simp [intOf]; omega
      · have AR := hideIt aw
        have hdd : (j < ks.length ∧ ¬ j < 20) ∨ ¬ j < ks.length := by omega
        clear aw aw1 px hgo
        rcases hdd with ⟨z1, z2⟩ | z1
        · have i3 : (j : Int) < (ks.length : Int) := by omega
          have i4 : ¬ (j : Int) < 20 := by omega
          go_wp2_with fail
          go_ret
          exact ⟨rfl, AR.out⟩
        · have i3 : ¬ (j : Int) < (ks.length : Int) := by omega
          go_wp2_with fail
          go_ret
          exact ⟨rfl, AR.out⟩
  · have HN := hideIt (pl_no (HP.out.1.after A1.out) (by decide) hok)
    have HNo := hideIt hok
    obtain ⟨Xc, hXc⟩ : ∃ X, X = p.chk := ⟨_, rfl⟩
    rw [← hXc] at HN
    have hx1 : (Xc != 0) = true := by rw [hXc]; simpa using hok
    have hx3 : (Xc != Xc) = false := by simp
    have HXc := hideIt hXc
    clear hok hXc
    go_wp2_with fail
    refine HN.out.mono ?_
    rintro e w2 ⟨rfl, af2⟩
    have A2 := hideIt (A1.out.trans af2)
    have c0 := cell_but af2 (blk_lt HG.out.1) (fun t => t) c0
    have c1 := cell_but af2 (blk_lt HG.out.1) (fun t => t) c1
    have c2 := cell_but af2 (blk_lt HG.out.1) (fun t => t) c2
    have HN2 := hideIt (pl_no (HP.out.1.after A2.out) (by decide) HNo.out)
    rw [← HXc.out] at HN2
    clear af2 HN
    go_wp2_with fail
    refine HN2.out.mono ?_
    rintro e w3 ⟨rfl, af3⟩
    have A3 := hideIt (A2.out.trans af3)
    clear af3
    go_wp2_with fail
    go_ret
    exact ⟨rfl, A3.out⟩
end Go.Proofs.Ytkjjjibglaffnaa
