/-
  The document's New: refused, or an exec.
-/
import Derived.Test.YtkjjjibglaffnaaRxI
namespace Go.Proofs.Ytkjjjibglaffnaa
open Go.RowKit
set_option maxRecDepth 8000
/-- What New answers. -/
def RNew (w : World) (fr : List (List Int)) (st : List Int) (lk : List (Int × Int)) (e : Ending) (w' : World) : Prop :=
  (chkT fr st lk ≠ 0 ∧ e = .returned (.tuple #[.pointer none, .int .i64 (chkT fr st lk)]) ∧ After w w') ∨ (chkT fr st lk = 0 ∧ RMade w fr st lk e w')
theorem any_at {lo hi : Int} {zs : List Int} {j : Nat} {z : Int} (h : zs[j]? = some z) (hno : (zs.take j).any (bad lo hi) = false) : (zs.take (j + 1)).any (bad lo hi) = bad lo hi z := by
  obtain ⟨hj, e⟩ := List.getElem?_eq_some_iff.1 h
  rw [List.take_succ_eq_append_getElem hj, List.any_append, hno, e]; simp
theorem any_mem {lo hi : Int} {zs : List Int} {j : Nat} {z : Int} (h : zs[j]? = some z) (hb : bad lo hi z = true) : zs.any (bad lo hi) = true := List.any_eq_true.2 ⟨z, List.mem_of_getElem? h, hb⟩
theorem bad_yes {n : Int} {z : Int} (h : z < 0 ∨ n ≤ z) : bad 0 (n - 1) z = true := by unfold bad; simp; omega
theorem bad_no {n : Int} {z : Int} (h1 : ¬ z < 0) (h2 : ¬ n ≤ z) : bad 0 (n - 1) z = false := by unfold bad; simp; omega
set_option maxHeartbeats 16000000 in
theorem rnew_any {w : World} {N : Nat} {fa : Option Addr} {fc : Nat} {fs : List Fw} {sa : Option Addr} {sc : Nat} {st : List Int} {la : Option Addr} {lc : Nat} {lk : List (Int × Int)} (h : Pl.Fits w N ⟨fa, fc, fs, sa, sc, st, la, lc, lk⟩) (hN : N ≤ 4000000) :
    Calls Try.prog 10 #[.slice fa fs.length fc, .slice sa st.length sc, .slice la lk.length lc] w (RNew w (fs.map Fw.l) st lk) := by
  have HF := hideIt (show GRow fwE w fa fs.length fs from h.rf)
  have HW := hideIt (show ∀ f ∈ fs, GRow inE w f.a f.l.length f.l ∧ (f.a = none → f.l.length = 0 ∧ f.c = 0) ∧ f.l.length ≤ N from h.fw)
  have HT := hideIt (show GRow inE w sa st.length st from h.rs)
  have HT0 := hideIt (show sa = none → st.length = 0 ∧ sc = 0 from h.sn)
  have HL := hideIt (show GRow prE w la lk.length lk from h.rl)
  have HL0 := hideIt (show la = none → lk.length = 0 ∧ lc = 0 from h.ln)
  have i1 : (fs.length : Int) ≤ 4000000 := by have := h.n1; dsimp only at this; omega
  have i2 : (st.length : Int) ≤ 4000000 := by have := h.n2; dsimp only at this; omega
  have i3 : (lk.length : Int) ≤ 4000000 := by have := h.n3; dsimp only at this; omega
  have HN := hideIt hN
  have YES := hideIt (show ∀ (X : Int) (w' : World), chkT (fs.map Fw.l) st lk = X → X ≠ 0 → After w w' → RNew w (fs.map Fw.l) st lk (.returned (.tuple #[.pointer none, .int .i64 X])) w' from fun X w' e hx a => .inl ⟨by rw [e]; exact hx, by rw [e], a⟩)
  clear h hN
  by_cases hs : ((fs.length : Int) < 1 ∨ 16 < (fs.length : Int)) ∨ ((st.length : Int) < 1 ∨ 8 < (st.length : Int))
  · have HV := hideIt (show chkT (fs.map Fw.l) st lk = 2 by
      unfold chkT
      rw [if_pos]
      unfold bad
      simp only [List.length_map, Bool.or_eq_true, decide_eq_true_eq]
      rcases hs with hs | hs
      · exact .inl hs
      · exact .inr (.inl hs))
    by_cases h1 : (fs.length : Int) < 1
    · clear hs
      go_enter Try.func10, Try.ntmps10
      go_wp2_with fail
      go_ret2
      exact YES.out _ _ HV.out (by decide) After.rfl
    by_cases h2 : 16 < (fs.length : Int)
    · clear hs
      go_enter Try.func10, Try.ntmps10
      go_wp2_with fail
      go_ret2
      exact YES.out _ _ HV.out (by decide) After.rfl
    by_cases h3 : (st.length : Int) < 1
    · clear hs
      go_enter Try.func10, Try.ntmps10
      go_wp2_with fail
      go_ret2
      exact YES.out _ _ HV.out (by decide) After.rfl
    · have h4 : 8 < (st.length : Int) := by omega
      clear hs
      go_enter Try.func10, Try.ntmps10
      go_wp2_with fail
      go_ret2
      exact YES.out _ _ HV.out (by decide) After.rfl
  · have h1 : ¬ (fs.length : Int) < 1 := by omega
    have h2 : ¬ 16 < (fs.length : Int) := by omega
    have h3 : ¬ (st.length : Int) < 1 := by omega
    have h4 : ¬ 8 < (st.length : Int) := by omega
    have HK := hideIt (show chkT (fs.map Fw.l) st lk = (if st.any (bad 0 1048576) = true then 2 else if badF st.length (fs.map Fw.l) ≠ 0 then badF st.length (fs.map Fw.l) else if 16 < lk.length then 6 else badL st.length lk) by
      unfold chkT
      have e1 : bad 1 16 (fs.map Fw.l).length = false := by unfold bad; simp only [List.length_map]; simp; omega
      have e2 : bad 1 8 st.length = false := by unfold bad; simp; omega
      rw [e1, e2, Bool.false_or, Bool.false_or])
    have i4 : (fs.length : Int) ≤ 16 := by omega
    have i5 : (st.length : Int) ≤ 8 := by omega
    clear hs
    go_enter Try.func10, Try.ntmps10
    go_wp2_with fail
    clear h1 h2 h3 h4
    go_loopw [8] (fun iv wr => ∃ j : Nat, j ≤ st.length ∧ iv = .int .i64 j ∧ After w wr ∧ (st.take j).any (bad 0 1048576) = false) (fun iv _ => st.length - (intOf iv).toNat)
    case atStart => exact ⟨0, Nat.zero_le _, rfl, After.rfl, rfl⟩
    case round =>
      obtain ⟨j, hj, rfl, af, hno⟩ := hrel
      by_cases hjn : j < st.length
      · have i6 : (j : Int) < (st.length : Int) := by omega
        obtain ⟨sb, so, z, rfl, hb, hz, c0⟩ := in_at (HT.out.after af) hjn
        have hat := any_at hz hno
        have HA := hideIt (And.intro af (And.intro hat hz))
        clear af hno hat hz
        by_cases hz1 : z < 0
        · have HV := hideIt (show chkT (fs.map Fw.l) st lk = 2 by
            rw [HK.out, if_pos (any_mem HA.out.2.2 (by unfold bad; simp; omega))])
          go_wp2_with fail
          go_ret2
          exact YES.out _ _ HV.out (by decide) HA.out.1
        by_cases hz2 : 1048576 < z
        · have HV := hideIt (show chkT (fs.map Fw.l) st lk = 2 by
            rw [HK.out, if_pos (any_mem HA.out.2.2 (by unfold bad; simp; omega))])
          go_wp2_with fail
          go_ret2
          exact YES.out _ _ HV.out (by decide) HA.out.1
        · have hbz : bad 0 1048576 z = false := by unfold bad; simp; omega
          have HZ := hideIt hbz
          clear hbz
          go_wp2_with fail
          go_roundw
          case rel => exact ⟨j + 1, by omega, by go_num, HA.out.1, by rw [HA.out.2.1]; exact HZ.out⟩
          case measure => simp [intOf]; omega
      · have i6 : ¬ (j : Int) < (st.length : Int) := by omega
        rw [List.take_of_length_le (by omega)] at hno
        have HV := hideIt (show chkT (fs.map Fw.l) st lk = (if badF st.length (fs.map Fw.l) ≠ 0 then badF st.length (fs.map Fw.l) else if 16 < lk.length then 6 else badL st.length lk) by
          rw [HK.out, hno]; rfl)
        obtain ⟨w1, hw1⟩ : ∃ w1, w1 = wr.alloc (.cells (nrC (.slice none 0 0) (.slice none 0 0) (.slice none 0 0) (.slice none 0 0) (.slice none 0 0)) 86) := ⟨_, rfl⟩
        obtain ⟨p, hp⟩ : ∃ p, p = wr.heap.size := ⟨_, rfl⟩
        have HR := hideIt (show Nr w w1 p (.slice none 0 0) (.slice none 0 0) (.slice none 0 0) (.slice none 0 0) (.slice none 0 0) [] from ⟨by rw [hw1, hp]; exact heap_alloc_new wr _, orow_nil _ _ _ _, fun f hf => (by cases hf), by rw [hp]; exact af.size, by rw [hw1]; exact af.alloc _⟩)
        have HW1 := hideIt (And.intro hw1 hp)
        clear af hno hw1 hp HK
        go_wp2_with fail
        rw [← HW1.out.1, ← HW1.out.2]
        clear HW1
        go_loopw [10] (fun iv wr => ∃ (j : Nat) (vF : Value) (gs : List Fw), j ≤ fs.length ∧ iv = .int .i64 j ∧ Nr w wr p vF (.slice none 0 0) (.slice none 0 0) (.slice none 0 0) (.slice none 0 0) gs ∧ gs.map Fw.l = (fs.map Fw.l).take j ∧ badF st.length ((fs.map Fw.l).drop j) = badF st.length (fs.map Fw.l)) (fun iv _ => fs.length - (intOf iv).toNat)
        case atStart => exact ⟨0, _, [], Nat.zero_le _, rfl, HR.out, rfl, rfl⟩
        case round =>
          clear HR
          obtain ⟨j, vF, gs, hj, rfl, nr, hgs, hbd⟩ := hrel
          by_cases hjn : j < fs.length
          · have i7 : (j : Int) < (fs.length : Int) := by omega
            obtain ⟨fb, fo, ⟨ga, gc, gl⟩, rfl, hb, hfj, d0⟩ := fw_at (HF.out.after nr.aft) hjn
            dsimp only at d0
            have hm := HW.out ⟨ga, gc, gl⟩ (List.mem_of_getElem? hfj)
            dsimp only at hm
            have hat := badF_at (st.length : Int) (fs := fs.map Fw.l) (j := j) (r := gl) (by rw [List.getElem?_map, hfj]; rfl)
            rw [hbd] at hat
            have i8 : (gl.length : Int) ≤ 4000000 := by have := HN.out; omega
            have HM := hideIt hm
            have HA := hideIt (And.intro nr (And.intro hgs hat))
            have HFJ := hideIt hfj
            clear nr hgs hat hbd hm hfj
            by_cases h8 : 8 < (gl.length : Int)
            · have HZ := hideIt (show chkT (fs.map Fw.l) st lk = 6 by
                have e := HA.out.2.2
                rw [if_pos (by omega)] at e
                rw [HV.out, e]; rfl)
              go_wp2_with fail
              go_ret2
              exact YES.out _ _ HZ.out (by decide) HA.out.1.aft
            · go_wp2_with fail
              obtain ⟨U, hU⟩ : ∃ U, U = wr := ⟨_, rfl⟩
              subst hU
              clear d0 hb
              go_loopw [11] (fun iv wr => ∃ k : Nat, k ≤ gl.length ∧ iv = .int .i64 k ∧ After U wr ∧ (gl.take k).any (bad 0 ((st.length : Int) - 1)) = false) (fun iv _ => gl.length - (intOf iv).toNat)
              case atStart => exact ⟨0, Nat.zero_le _, rfl, After.rfl, rfl⟩
              case round =>
                obtain ⟨k, hk, rfl, af, hno⟩ := hrel
                obtain ⟨fb2, fo2, g2, e2, hb, hfj, d0⟩ := fw_at (HF.out.after (HA.out.1.aft.trans af)) hjn
                cases e2
                rw [HFJ.out] at hfj
                cases hfj
                dsimp only at d0
                by_cases hkn : k < gl.length
                · have i9 : (k : Int) < (gl.length : Int) := by omega
                  obtain ⟨gb, go_, z, rfl, hb2, hz, g0⟩ := in_at ((HM.out.1.after HA.out.1.aft).after af) hkn
                  have hat := any_at hz hno
                  have HB := hideIt (And.intro af (And.intro hat hz))
                  have HQ := hideIt (show bad 0 ((st.length : Int) - 1) z = true → chkT (fs.map Fw.l) st lk = 210 from fun hq => by
                    have e := HA.out.2.2
                    rw [if_neg (by omega), any_mem HB.out.2.2 hq, if_pos rfl] at e
                    rw [HV.out, e]; rfl)
                  clear af hno hat hz
                  by_cases hz1 : z < 0
                  · go_wp2_with fail
                    go_ret2
                    exact YES.out _ _ (HQ.out (bad_yes (.inl hz1))) (by decide) (HA.out.1.aft.trans HB.out.1)
                  by_cases hz2 : (st.length : Int) ≤ z
                  · go_wp2_with fail
                    go_ret2
                    exact YES.out _ _ (HQ.out (bad_yes (.inr hz2))) (by decide) (HA.out.1.aft.trans HB.out.1)
                  · have HZ := hideIt (bad_no hz1 hz2)
                    have hz3 : z < (st.length : Int) := by omega
                    go_wp2_with fail
                    go_roundw
                    case rel => exact ⟨k + 1, by omega, by go_num, HB.out.1, by rw [HB.out.2.1]; exact HZ.out⟩
                    case measure => simp [intOf]; omega
                · have i9 : ¬ (k : Int) < (gl.length : Int) := by omega
                  rw [List.take_of_length_le (by omega)] at hno
                  have HB := hideIt (HA.out.1.after af)
                  have HC := hideIt (show badF st.length ((fs.map Fw.l).drop (j + 1)) = badF st.length (fs.map Fw.l) by
                    have e := HA.out.2.2
                    rw [if_neg (by omega), hno, if_neg (by decide)] at e
                    exact e.symm)
                  have HT2 := hideIt (show (fs.map Fw.l).take (j + 1) = gs.map Fw.l ++ [gl] by
                    have e : (fs.map Fw.l)[j]? = some gl := by rw [List.getElem?_map, HFJ.out]; rfl
                    obtain ⟨h1, h2⟩ := List.getElem?_eq_some_iff.1 e
                    rw [List.take_succ_eq_append_getElem h1, h2, HA.out.2.1])
                  have HG := hideIt (show gs.length ≤ 16 by
                    have e := congrArg List.length HA.out.2.1
                    rw [List.length_map, List.length_take] at e
                    omega)
                  have HRw := hideIt ((HM.out.1.after HA.out.1.aft).after af)
                  clear af hno
                  obtain ⟨aF, cF, eF, _⟩ := HB.out.oF.row
                  subst eF
                  have cp0 := blk_cell HB.out.at0 (i := 0) rfl
                  go_wp2_with (at_builtin; go_must (refine app_row (E := inE) rfl (.tmp 94) (.tmp 98) 23 3 Try.underlying23 Try.infoIn rfl (by decide) rfl w.heap.size (.slice none 0 0) [] rfl (orow_nil _ _ _ _) ga gl.length gc gl rfl HRw.out HM.out.2.1 (by unfold maxLen; simp; omega) (by simp; omega) HB.out.aft.size ?_))
                  intro v1 w1 o1 b1
                  have a1 : After wr w1 := b1.mono (fun _ _ e => by cases e)
                  obtain ⟨a2, c2, e2, _⟩ := o1.row
                  subst e2
                  have HB1 := hideIt (HB.out.after a1)
                  have HO1 := hideIt o1
                  have cp1 := blk_cell HB1.out.at0 (i := 0) rfl
                  clear o1 b1 a1 cp0
                  obtain ⟨W, hW⟩ : ∃ W, W = w1.alloc (.cells #[.slice a2 gl.length c2] 23) := ⟨_, rfl⟩
                  have aW : After w1 W := by rw [hW]; exact After.rfl.alloc _
                  have HB2 := hideIt (HB1.out.after aW)
                  have HO2 := hideIt (own_after HO1.out aW)
                  have HL2 := hideIt (show GRow fwE W (some ⟨w1.heap.size, 0, none⟩) 1 [⟨a2, c2, gl⟩] by rw [hW]; exact lit_row (heap_alloc_new w1 _) rfl rfl)
                  have HW2 := hideIt hW
                  clear hW aW
                  go_wp2_with (at_builtin; rw [← HW2.out]; go_must (refine app_row (E := fwE) rfl (.tmp 104) (.tmp 106) 22 23 Try.underlying22 Try.infoFw rfl (by decide) rfl w.heap.size _ gs rfl HB2.out.oF (some ⟨w1.heap.size, 0, none⟩) 1 1 [⟨a2, c2, gl⟩] rfl HL2.out (fun e => by cases e) (by have := HG.out; unfold maxLen; omega) (by have := HG.out; omega) HB2.out.aft.size ?_))
                  intro v3 w3 o3 b3
                  have s0 := blk_soft (HB2.out.at1 b3) 0
                  have c3 := blk_cell (HB2.out.at1 b3) (i := 0) rfl
                  obtain ⟨a3, n3, c3', e3⟩ : ∃ a n c, v3 = .slice a n c := by
                    obtain ⟨a, c, e, _⟩ := o3.row
                    exact ⟨a, _, c, e⟩
                  subst e3
                  have HR3 := hideIt (HB2.out.land (f := ⟨a2, c2, gl⟩) HO2.out o3 b3)
                  clear o3 b3 cp1
                  go_wp2_with fail
                  go_roundw
                  case rel => exact ⟨j + 1, _, gs ++ [⟨a2, c2, gl⟩], by omega, by go_num, HR3.out, by rw [HT2.out, List.map_append]; rfl, HC.out⟩
                  case measure => simp [intOf]; omega
          · have i7 : ¬ (j : Int) < (fs.length : Int) := by omega
            rw [List.take_of_length_le (by rw [List.length_map]; omega)] at hgs
            have hz : badF st.length (fs.map Fw.l) = 0 := by
              rw [← hbd, List.drop_eq_nil_of_le (by rw [List.length_map]; omega)]; rfl
            have HV2 := hideIt (show chkT (fs.map Fw.l) st lk = (if 16 < lk.length then 6 else badL st.length lk) by rw [HV.out, hz]; rfl)
            have HA := hideIt (And.intro nr hgs)
            clear nr hgs hz hbd
            by_cases h16 : (16 : Int) < (lk.length : Int)
            · have HZ := hideIt (show chkT (fs.map Fw.l) st lk = 6 by rw [HV2.out, if_pos (by omega)])
              go_wp2_with fail
              go_ret2
              exact YES.out _ _ HZ.out (by decide) HA.out.1.aft
            · have HV3 := hideIt (show chkT (fs.map Fw.l) st lk = badL st.length lk by rw [HV2.out, if_neg (by omega)])
              obtain ⟨U, hU⟩ : ∃ U, U = wr := ⟨_, rfl⟩
              subst hU
              have HU := hideIt HA.out
              clear HA HV HV2
              go_wp2_with fail
              go_loopw [13] (fun iv wr => ∃ j : Nat, j ≤ lk.length ∧ iv = .int .i64 j ∧ After U wr ∧ badL st.length (lk.drop j) = badL st.length lk) (fun iv _ => lk.length - (intOf iv).toNat)
              case atStart => exact ⟨0, Nat.zero_le _, rfl, After.rfl, rfl⟩
              case round =>
                obtain ⟨j, hj, rfl, af, hbd⟩ := hrel
                by_cases hjn : j < lk.length
                · have i8 : (j : Int) < (lk.length : Int) := by omega
                  obtain ⟨b2, f2, q, rfl, hb2, hq, _, _⟩ := pr_at (HL.out.after (HU.out.1.aft.trans af)) hjn
                  have hat := badL_at (st.length : Int) hq
                  rw [hbd] at hat
                  have HA := hideIt (And.intro af (And.intro hat hq))
                  obtain ⟨U2, hU2⟩ : ∃ U2, U2 = wr := ⟨_, rfl⟩
                  subst hU2
                  clear af hat hbd hq hb2
                  go_wp2_with fail
                  go_loopw [14] (fun iv wr => ∃ k : Nat, k ≤ 2 ∧ iv = .int .i64 k ∧ After U2 wr ∧ ([q.1, q.2].take k).any (bad 0 ((st.length : Int) - 1)) = false) (fun iv _ => 2 - (intOf iv).toNat)
                  case atStart => exact ⟨0, Nat.zero_le _, rfl, After.rfl, rfl⟩
                  case round =>
                    obtain ⟨k, hk, rfl, af, hno⟩ := hrel
                    by_cases hkn : k < 2
                    · have i9 : (k : Int) < 2 := by omega
                      obtain ⟨b3, f3, q', e3, hb3, hq', d0, d1⟩ := pr_at (HL.out.after ((HU.out.1.aft.trans HA.out.1).trans af)) hjn
                      cases e3
                      rw [HA.out.2.2] at hq'
                      cases hq'
                      obtain ⟨z, hz, dz⟩ : ∃ z, [q.1, q.2][k]? = some z ∧ wr.cell? ⟨b2, f2 + j * 2 + k, none⟩ = some (.int .i64 z) := by
                        have : k = 0 ∨ k = 1 := by omega
                        rcases this with rfl | rfl
                        · exact ⟨q.1, rfl, d0⟩
                        · exact ⟨q.2, rfl, d1⟩
                      have hat := any_at hz hno
                      have HB := hideIt (And.intro af (And.intro hat hz))
                      have HQ := hideIt (show bad 0 ((st.length : Int) - 1) z = true → chkT (fs.map Fw.l) st lk = 210 from fun hq => by
                        have e := HA.out.2.1
                        rw [any_mem HB.out.2.2 hq, if_pos rfl] at e
                        rw [HV3.out, e])
                      clear af hno hat hz d0 d1
                      by_cases hz1 : z < 0
                      · go_wp2_with fail
                        go_ret2
                        exact YES.out _ _ (HQ.out (bad_yes (.inl hz1))) (by decide) ((HU.out.1.aft.trans HA.out.1).trans HB.out.1)
                      by_cases hz2 : (st.length : Int) ≤ z
                      · go_wp2_with fail
                        go_ret2
                        exact YES.out _ _ (HQ.out (bad_yes (.inr hz2))) (by decide) ((HU.out.1.aft.trans HA.out.1).trans HB.out.1)
                      · have HZ := hideIt (bad_no hz1 hz2)
                        have hz3 : z < (st.length : Int) := by omega
                        go_wp2_with fail
                        go_roundw
                        case rel => exact ⟨k + 1, by omega, by go_num, HB.out.1, by rw [HB.out.2.1]; exact HZ.out⟩
                        case measure => simp [intOf]; omega
                    · have i9 : ¬ (k : Int) < 2 := by omega
                      obtain rfl : k = 2 := by omega
                      have HB := hideIt (And.intro af (show badL st.length (lk.drop (j + 1)) = badL st.length lk by
                        have e := HA.out.2.1
                        rw [show [q.1, q.2].any (bad 0 ((st.length : Int) - 1)) = false from hno, if_neg (by decide)] at e
                        exact e.symm))
                      clear af hno
                      go_wp2_with fail
                      go_roundw
                      case rel => exact ⟨j + 1, by omega, by go_num, HA.out.1.trans HB.out.1, HB.out.2⟩
                      case measure => simp [intOf]; omega
                · have i8 : ¬ (j : Int) < (lk.length : Int) := by omega
                  have HC := hideIt (show chkT (fs.map Fw.l) st lk = 0 by
                    rw [HV3.out, ← hbd, List.drop_eq_nil_of_le (by omega)]; rfl)
                  have HB := hideIt (HU.out.1.after af)
                  have HTr := hideIt (HT.out.after (HU.out.1.aft.trans af))
                  have cp1 := blk_cell HB.out.at0 (i := 1) rfl
                  clear af hbd HV3 YES
                  go_wp2_with (at_builtin; go_must (refine app_row (E := inE) rfl (.tmp 145) (.tmp 146) 23 3 Try.underlying23 Try.infoIn rfl (by decide) rfl w.heap.size (.slice none 0 0) [] rfl (orow_nil _ _ _ _) sa st.length sc st rfl HTr.out HT0.out (by unfold maxLen; simp; omega) (by simp; omega) HB.out.aft.size ?_))
                  intro v1 w1 o1 b1
                  have a1 : After wr w1 := b1.mono (fun _ _ e => by cases e)
                  have n1 := HB.out.after a1
                  have c1 := blk_cell n1.at0 (i := 1) rfl
                  have s1 := blk_soft n1.at0 1
                  have c2 := blk_cell n1.at0 (i := 2) rfl
                  obtain ⟨aS, nS, cS, e1⟩ : ∃ a n c, v1 = .slice a n c := by
                    obtain ⟨a, c, e, _⟩ := o1.row
                    exact ⟨a, _, c, e⟩
                  subst e1
                  obtain ⟨W1, hW1⟩ : ∃ W1, W1 = w1.setCell ⟨p, 1, none⟩ (.slice aS nS cS) := ⟨_, rfl⟩
                  have HN1 := hideIt (show Nr w W1 p vF (.slice aS nS cS) (.slice none 0 0) (.slice none 0 0) (.slice none 0 0) gs by rw [hW1]; exact n1.put 1 _ rfl)
                  have HS1 := hideIt (show ORow inE 3 W1 w.heap.size (.slice aS nS cS) st by rw [hW1]; exact own_put o1 n1.at0 (by decide) 1 _)
                  have HLr := hideIt (HL.out.after HN1.out.aft)
                  have HW1 := hideIt hW1
                  clear o1 b1 a1 n1 hW1 cp1
                  go_wp2_with (at_builtin; rw [← HW1.out]; go_must (refine app_row (E := prE) rfl (.tmp 154) (.tmp 155) 24 65 Try.underlying24 Try.infoPr rfl (by decide) rfl w.heap.size (.slice none 0 0) [] rfl (orow_nil _ _ _ _) la lk.length lc lk rfl HLr.out HL0.out (by unfold maxLen; simp; omega) (by simp; omega) HN1.out.aft.size ?_))
                  intro v2 w2 o2 b2
                  have a2 : After W1 w2 := b2.mono (fun _ _ e => by cases e)
                  have n2 := HN1.out.after a2
                  have k2 := blk_cell n2.at0 (i := 2) rfl
                  have k3 := blk_cell n2.at0 (i := 3) rfl
                  have k4 := blk_cell n2.at0 (i := 4) rfl
                  have t2 := blk_soft n2.at0 2
                  have t3 := blk_soft n2.at0 3
                  have t4 := blk_soft n2.at0 4
                  have lp := blk_lt n2.at0
                  obtain ⟨aL, nL, cL, e2⟩ : ∃ a n c, v2 = .slice a n c := by
                    obtain ⟨a, c, e, _⟩ := o2.row
                    exact ⟨a, _, c, e⟩
                  subst e2
                  have H2 := hideIt (And.intro n2 (And.intro o2 (own_after HS1.out a2)))
                  have hmk := make_bo lk.length (by omega)
                  have hmk2 := make_in lk.length (by omega)
                  clear o2 b2 a2 n2 c1 s1 c2
                  go_wp2_with fail
                  go_ret2
                  obtain ⟨n2, o2, o1⟩ := H2.out
                  have m2 := n2.put 2 (.slice aL nL cL) (vL' := .slice aL nL cL) rfl
                  have m3 := m2.put 3 (.slice (some ⟨w2.heap.size, 0, none⟩) lk.length lk.length) (vH' := .slice (some ⟨w2.heap.size, 0, none⟩) lk.length lk.length) rfl
                  have m4 := m3.put 4 (.slice (some ⟨w2.heap.size + 1, 0, none⟩) lk.length lk.length) (vV' := .slice (some ⟨w2.heap.size + 1, 0, none⟩) lk.length lk.length) rfl
                  have p1 := own_put (own_put (own_put o1 n2.at0 (by decide) 2 (.slice aL nL cL)) m2.at0 (by decide) 3 (.slice (some ⟨w2.heap.size, 0, none⟩) lk.length lk.length)) m3.at0 (by decide) 4 (.slice (some ⟨w2.heap.size + 1, 0, none⟩) lk.length lk.length)
                  have p2 := own_put (own_put (own_put o2 n2.at0 (by decide) 2 (.slice aL nL cL)) m2.at0 (by decide) 3 (.slice (some ⟨w2.heap.size, 0, none⟩) lk.length lk.length)) m3.at0 (by decide) 4 (.slice (some ⟨w2.heap.size + 1, 0, none⟩) lk.length lk.length)
                  have hsz : (((w2.setCell ⟨p, 2, none⟩ (.slice aL nL cL)).setCell ⟨p, 3, none⟩ (.slice (some ⟨w2.heap.size, 0, none⟩) lk.length lk.length)).setCell ⟨p, 4, none⟩ (.slice (some ⟨w2.heap.size + 1, 0, none⟩) lk.length lk.length)).heap.size = w2.heap.size := by simp [World.setCell]
                  generalize ((w2.setCell ⟨p, 2, none⟩ (.slice aL nL cL)).setCell ⟨p, 3, none⟩ (.slice (some ⟨w2.heap.size, 0, none⟩) lk.length lk.length)).setCell ⟨p, 4, none⟩ (.slice (some ⟨w2.heap.size + 1, 0, none⟩) lk.length lk.length) = W3 at *
                  have hA := heap_alloc_new W3 (.cells (Array.replicate lk.length (Value.bool false)) 4)
                  have hB := heap_alloc_new (W3.alloc (.cells (Array.replicate lk.length (Value.bool false)) 4)) (.cells (Array.replicate lk.length (Value.int .i64 0)) 3)
                  have aB := (After.rfl (w := W3.alloc (.cells (Array.replicate lk.length (Value.bool false)) 4))).alloc (.cells (Array.replicate lk.length (Value.int .i64 0)) 3)
                  have aA := ((After.rfl (w := W3)).alloc (.cells (Array.replicate lk.length (Value.bool false)) 4)).trans aB
                  have hA5 := (aB.block _ (blk_lt hA) (fun t => t)).trans hA
                  rw [World.size_alloc] at hB
                  rw [hsz] at hA5 hB
                  have hle := n2.aft.size
                  refine .inr ⟨HC.out, ?_⟩
                  have hgs := HU.out.2
                  rw [← hgs]
                  refine rmade_of (m4.after aA) (own_after p1 aA) (own_after p2 aA) (by rw [List.toArray_replicate]; exact hA5) (by rw [List.toArray_replicate]; exact hB) hle (by omega) (fun k hk e => ?_) (fun f hf k hk e => ?_) (by rw [hgs]; exact HC.out)
                  · have := (o1.lt k hk).2; omega
                  · have := ((n2.of f hf).lt k hk).2; omega
end Go.Proofs.Ytkjjjibglaffnaa
