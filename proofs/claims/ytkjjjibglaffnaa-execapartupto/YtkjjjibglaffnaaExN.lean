/-
  checkTable.
-/
import Derived.Test.YtkjjjibglaffnaaExM
namespace Go.Proofs.Ytkjjjibglaffnaa
open Go.RowKit
set_option maxRecDepth 8000
theorem badF_at (n : Int) {fs : List (List Int)} {j : Nat} {r : List Int} (h : fs[j]? = some r) : badF n (fs.drop j) = if 8 < r.length then 6 else if r.any (bad 0 (n - 1)) then 210 else badF n (fs.drop (j + 1)) := by
  obtain ⟨hj, e⟩ := List.getElem?_eq_some_iff.1 h
  rw [List.drop_eq_getElem_cons hj, e]
  rfl
theorem badL_at (n : Int) {ls : List (Int × Int)} {j : Nat} {q : Int × Int} (h : ls[j]? = some q) : badL n (ls.drop j) = if [q.1, q.2].any (bad 0 (n - 1)) then 210 else badL n (ls.drop (j + 1)) := by
  obtain ⟨hj, e⟩ := List.getElem?_eq_some_iff.1 h
  rw [List.drop_eq_getElem_cons hj, e]
  rfl
/-- Two closures' blocks. -/
def Bnd (w : World) (a b : Nat) (lo hi : Int) : Prop := w.heap[a]? = some (.cells #[.int .i64 lo] 3 (0, 0)) ∧ w.heap[b]? = some (.cells #[.int .i64 hi] 3 (0, 0))
theorem Bnd.after {w w' : World} {a b : Nat} {lo hi : Int} (h : Bnd w a b lo hi) (af : After w w') : Bnd w' a b lo hi :=
  ⟨(af.block a (blk_lt h.1) (fun t => t)).trans h.1, (af.block b (blk_lt h.2) (fun t => t)).trans h.2⟩
set_option maxHeartbeats 4000000 in
theorem check_any {w : World} {fa : Option Addr} {fc : Nat} {fws : List Fw} {sa : Option Addr} {sc : Nat} {st : List Int} {la : Option Addr} {lc : Nat} {lk : List (Int × Int)} (hf : GRow fwE w fa fws.length fws) (hfw : ∀ f ∈ fws, GRow inE w f.a f.l.length f.l ∧ f.l.length ≤ 17592186044416) (hs : GRow inE w sa st.length st) (hl : GRow prE w la lk.length lk) (b1 : fws.length ≤ 17592186044416) (b2 : st.length ≤ 17592186044416) (b3 : lk.length ≤ 17592186044416) :
    Calls Try.prog 20 #[.slice fa fws.length fc, .slice sa st.length sc, .slice la lk.length lc] w fun e w' => e = .returned (.int .i64 (chkT (fws.map Fw.l) st lk)) ∧ After w w' := by
  have HH := hideIt (And.intro hf (And.intro hfw (And.intro hs (And.intro hl (And.intro b1 (And.intro b2 b3))))))
  have i1 : (fws.length : Int) ≤ 17592186044416 := by omega
  have i2 : (st.length : Int) ≤ 17592186044416 := by omega
  have i3 : (lk.length : Int) ≤ 17592186044416 := by omega
  have HK := hideIt (show chkT (fws.map Fw.l) st lk = chkT (fws.map Fw.l) st lk from rfl)
  clear hf hfw hs hl b1 b2 b3
  go_enter Try.func20, Try.ntmps20
  go_wp2_with fail
  refine (beyond_any _ 1 16).mono ?_
  rintro e w1 ⟨v, rfl, ⟨a1, c1, rfl, k1⟩, af1⟩
  have H1 := hideIt (show Bnd w1 a1 c1 1 16 from k1)
  have A1 := hideIt af1
  clear k1 af1
  go_wp2_with fail
  refine (beyond_any _ 1 8).mono ?_
  rintro e w2 ⟨v, rfl, ⟨a2, c2, rfl, k2⟩, af2⟩
  have H2 := hideIt (show Bnd w2 a2 c2 1 8 from k2)
  have A2 := hideIt (A1.out.trans af2)
  have H1 := hideIt (H1.out.after af2)
  clear k2 af2 A1
  go_wp2_with fail
  refine (beyond_any _ 0 1048576).mono ?_
  rintro e w3 ⟨v, rfl, ⟨a3, c3, rfl, k3⟩, af3⟩
  have H3 := hideIt (show Bnd w3 a3 c3 0 1048576 from k3)
  have A3 := hideIt (A2.out.trans af3)
  have H2 := hideIt (H2.out.after af3)
  have H1 := hideIt (H1.out.after af3)
  clear k3 af3 A2
  have Q1 := hideIt (bey_any H1.out.1 H1.out.2 (fws.length : Int))
  have Q2 := hideIt (bey_any H2.out.1 H2.out.2 (st.length : Int))
  have Q3 := hideIt (contains_any (c := sc) H3.out.1 H3.out.2 (HH.out.2.2.1.after A3.out) HH.out.2.2.2.2.2.1)
  go_wp2_with fail
  refine Q1.out.mono ?_
  rintro e w4 ⟨rfl, hw⟩
  obtain rfl := hw.symm
  rcases q1 : (decide ((fws.length : Int) < 1) || decide (16 < (fws.length : Int))) with _ | _
  case true =>
    have HV := hideIt (show chkT (fws.map Fw.l) st lk = 2 by unfold chkT; rw [if_pos (by rw [List.length_map]; unfold bad; rw [q1]; rfl)])
    go_wp2_with fail
    go_ret
    exact ⟨ret_int HV.out.symm, A3.out⟩
  case false =>
    go_wp2_with fail
    refine Q2.out.mono ?_
    rintro e w5 ⟨rfl, hw⟩
    obtain rfl := hw.symm
    rcases q2 : (decide ((st.length : Int) < 1) || decide (8 < (st.length : Int))) with _ | _
    case true =>
      have HV := hideIt (show chkT (fws.map Fw.l) st lk = 2 by unfold chkT; rw [if_pos (by rw [List.length_map]; unfold bad; rw [q1, q2]; rfl)])
      go_wp2_with fail
      go_ret
      exact ⟨ret_int HV.out.symm, A3.out⟩
    case false =>
      go_wp2_with fail
      refine Q3.out.mono ?_
      rintro e w6 ⟨rfl, af6⟩
      have A6 := hideIt (A3.out.trans af6)
      clear af6
      rcases q3 : st.any (bad 0 1048576) with _ | _
      case true =>
        have HV := hideIt (show chkT (fws.map Fw.l) st lk = 2 by unfold chkT; rw [if_pos (by rw [q3, Bool.or_true, Bool.or_true])])
        go_wp2_with fail
        go_ret
        exact ⟨ret_int HV.out.symm, A6.out⟩
      case false =>
        have HV := hideIt (show chkT (fws.map Fw.l) st lk = (if badF st.length (fws.map Fw.l) ≠ 0 then badF st.length (fws.map Fw.l) else if 16 < lk.length then 6 else badL st.length lk) by unfold chkT; rw [if_neg (by rw [List.length_map]; unfold bad at q3 ⊢; rw [q1, q2, q3]; simp)])
        have i4 : (st.length : Int) ≤ 8 := by
          rw [Bool.or_eq_false_iff] at q2
          have := of_decide_eq_false q2.2
          omega
        clear Q1 Q2 Q3 q1 q2 q3 H1 H2 H3 A3 HK
        go_wp2_with fail
        refine (beyond_any _ 0 _).mono ?_
        rintro e w7 ⟨v, rfl, ⟨a7, c7, rfl, k7⟩, af7⟩
        have H7 := hideIt (show Bnd w7 a7 c7 0 ((st.length : Int) - 1) from k7)
        have A7 := hideIt (A6.out.trans af7)
        clear k7 af7 A6
        go_wp2_with fail
        go_loopw [39] (fun iv wr => ∃ j : Nat, j ≤ fws.length ∧ iv = .int .i64 j ∧ After w7 wr ∧ badF st.length ((fws.map Fw.l).drop j) = badF st.length (fws.map Fw.l)) (fun iv _ => fws.length - (intOf iv).toNat)
        case atStart => exact ⟨0, Nat.zero_le _, rfl, After.rfl, rfl⟩
        case round =>
          obtain ⟨j, hj, rfl, af, hbd⟩ := hrel
          by_cases hjn : j < fws.length
          · have i5 : (j : Int) < (fws.length : Int) := by omega
            have aw := A7.out.trans af
            obtain ⟨bb, off, f, rfl, hb, hfj, d0⟩ := fw_at (HH.out.1.after aw) hjn
            obtain ⟨rf, lf⟩ := HH.out.2.1 f (List.mem_of_getElem? hfj)
            have hb7 := H7.out.after af
            have Q7 := hideIt (contains_any (c := f.c) hb7.1 hb7.2 (rf.after aw) lf)
            have hat := badF_at (st.length : Int) (fs := fws.map Fw.l) (j := j) (r := f.l) (by rw [List.getElem?_map, hfj]; rfl)
            have i6 : (f.l.length : Int) ≤ 17592186044416 := by omega
            rw [hbd] at hat
            have HA := hideIt (And.intro af hat)
            clear af hat hbd rf lf hfj aw hb7
            by_cases q8 : 8 < f.l.length
            · have i7 : (8 : Int) < (f.l.length : Int) := by omega
              have HZ := hideIt (show chkT (fws.map Fw.l) st lk = 6 by
                have e := HA.out.2
                rw [if_pos q8] at e
                rw [HV.out, e]; rfl)
              go_wp2_with fail
              go_ret
              exact ⟨ret_int HZ.out.symm, A7.out.trans HA.out.1⟩
            · have i7 : ¬ (8 : Int) < (f.l.length : Int) := by omega
              go_wp2_with fail
              refine Q7.out.mono ?_
              rintro e w8 ⟨rfl, af8⟩
              have A8 := hideIt (HA.out.1.trans af8)
              clear af8
              rcases q9 : f.l.any (bad 0 ((st.length : Int) - 1)) with _ | _
              · go_wp2_with fail
                go_roundw
                case rel => exact ⟨j + 1, by omega, by go_num, A8.out, by
                  have e := HA.out.2
                  rw [if_neg q8, q9, if_neg (by decide)] at e
                  exact e.symm⟩
                case measure => simp [intOf]; omega
              · have HZ := hideIt (show chkT (fws.map Fw.l) st lk = 210 by
                  have e := HA.out.2
                  rw [if_neg q8, q9, if_pos rfl] at e
                  rw [HV.out, e]; rfl)
                go_wp2_with fail
                go_ret
                exact ⟨ret_int HZ.out.symm, A7.out.trans A8.out⟩
          · have i5 : ¬ (j : Int) < (fws.length : Int) := by omega
            have hz : badF st.length (fws.map Fw.l) = 0 := by
              rw [← hbd, List.drop_eq_nil_of_le (by rw [List.length_map]; omega)]; rfl
            have HV2 := hideIt (show chkT (fws.map Fw.l) st lk = (if 16 < lk.length then 6 else badL st.length lk) by rw [HV.out, hz]; rfl)
            have HA := hideIt af
            clear af hbd hz HV
            by_cases q8 : 16 < lk.length
            · have i6 : (16 : Int) < (lk.length : Int) := by omega
              have HZ := hideIt (show chkT (fws.map Fw.l) st lk = 6 by rw [HV2.out, if_pos q8])
              go_wp2_with fail
              go_ret
              exact ⟨ret_int HZ.out.symm, A7.out.trans HA.out⟩
            · have i6 : ¬ (16 : Int) < (lk.length : Int) := by omega
              have HV3 := hideIt (show chkT (fws.map Fw.l) st lk = badL st.length lk by rw [HV2.out, if_neg q8])
              obtain ⟨U, hU⟩ : ∃ U, U = wr := ⟨_, rfl⟩
              subst hU
              clear HV2
              go_wp2_with fail
              go_loopw [55] (fun iv wr => ∃ j : Nat, j ≤ lk.length ∧ iv = .int .i64 j ∧ After U wr ∧ badL st.length (lk.drop j) = badL st.length lk) (fun iv _ => lk.length - (intOf iv).toNat)
              case atStart => exact ⟨0, Nat.zero_le _, rfl, After.rfl, rfl⟩
              case round =>
                obtain ⟨k, hk, rfl, af, hbd⟩ := hrel
                by_cases hkn : k < lk.length
                · have i7 : (k : Int) < (lk.length : Int) := by omega
                  have aw := (A7.out.trans HA.out).trans af
                  obtain ⟨bb, off, q, rfl, hb, hq, d0, d1⟩ := pr_at (HH.out.2.2.2.1.after aw) hkn
                  obtain ⟨W, hW⟩ : ∃ W, W = wr.alloc (.cells #[.int .i64 q.1, .int .i64 q.2] 65) := ⟨_, rfl⟩
                  have aW : After wr W := by rw [hW]; exact After.rfl.alloc _
                  have hg : W.heap[wr.heap.size]? = some (.cells #[.int .i64 q.1, .int .i64 q.2] 65 (0, 0)) := by rw [hW]; exact heap_alloc_new wr _
                  have hb7 := H7.out.after ((HA.out.trans af).trans aW)
                  have Q7 := hideIt (contains_any (c := 2) hb7.1 hb7.2 (lit_row (E := inE) (xs := [q.1, q.2]) hg rfl rfl) (show (2 : Nat) ≤ 17592186044416 by decide))
                  have hat := badL_at (st.length : Int) hq
                  rw [hbd] at hat
                  have HZ := hideIt (And.intro (af.trans aW) hat)
                  have HW := hideIt hW
                  have lg := blk_lt hg
                  clear af hat hbd hb7 hq aw hW aW hg
                  go_wp2_with fail
                  rw [← HW.out]
                  refine Q7.out.mono ?_
                  rintro e w8 ⟨rfl, af8⟩
                  have A8 := hideIt (HZ.out.1.trans af8)
                  clear af8
                  rcases q9 : [q.1, q.2].any (bad 0 ((st.length : Int) - 1)) with _ | _
                  · go_wp2_with fail
                    go_roundw
                    case rel => exact ⟨k + 1, by omega, by go_num, A8.out, by
                      have e := HZ.out.2
                      rw [q9, if_neg (by decide)] at e
                      exact e.symm⟩
                    case measure => simp [intOf]; omega
                  · have HY := hideIt (show chkT (fws.map Fw.l) st lk = 210 by
                      have e := HZ.out.2
                      rw [q9, if_pos rfl] at e
                      rw [HV3.out, e])
                    go_wp2_with fail
                    go_ret
                    exact ⟨ret_int HY.out.symm, (A7.out.trans HA.out).trans A8.out⟩
                · have i7 : ¬ (k : Int) < (lk.length : Int) := by omega
                  have HY := hideIt (show chkT (fws.map Fw.l) st lk = 0 by
                    rw [HV3.out, ← hbd, List.drop_eq_nil_of_le (by omega)]; rfl)
                  have HZ := hideIt af
                  clear af hbd
                  go_wp2_with fail
                  go_ret
                  exact ⟨ret_int HY.out.symm, (A7.out.trans HA.out).trans HZ.out⟩
end Go.Proofs.Ytkjjjibglaffnaa
