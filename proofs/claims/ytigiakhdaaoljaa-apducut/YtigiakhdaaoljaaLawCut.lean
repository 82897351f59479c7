/-
  ApduCut.
-/
import Derived.Test.YtigiakhdaaoljaaApp
namespace Go.Proofs.Ytigiakhdaaoljaa
open Go.RowKit
set_option maxRecDepth 8000
set_option maxHeartbeats 2000000 in
theorem law_cut (w : World) (P : Nat → Prop) (M : Msg) (sa : Option Addr) (sc : Nat) (oa : Option Addr) (oc : Nat) (ba : Option Addr) (bc : Nat) (x : MsgX w P M sa sc oa oc ba bc) (at' : Int) (hat : -9223372036854775808 ≤ at' ∧ at' ≤ 9223372036854775807) (ma : Option Addr) (mn mc : Nat) (ms : List Int) (mr : Row w ma mn ms) (mo : ma = none → mn = 0 ∧ mc = 0) (ml : mn ≤ 140737488351232) :
    Calls Try.prog 7 #[M.val sa sc oa oc ba bc, .int .i64 at', .slice ma mn mc] w fun e w' => e = .returned (.bool true) ∧ After w w' := by
  have HM := hideIt (And.intro mr (And.intro mo (And.intro ml hat)))
  clear mr mo ml hat
  obtain ⟨w0, hw0⟩ : ∃ w0, w.alloc (.cells (M.cells sa sc oa oc ba bc) 26) = w0 := ⟨_, rfl⟩
  have hA : After w w0 := by rw [← hw0]; exact After.rfl.alloc _
  have b0 : w0.heap[w.heap.size]? = some (.cells (M.cells sa sc oa oc ba bc) 26 (0, 0)) := by rw [← hw0]; exact new1 _ _
  have H1 := hideIt (awake_any w0)
  unfold Msg.cells at hw0 b0
  have HW := hideIt hw0
  have HX := hideIt (And.intro hA (And.intro b0 x))
  clear hA b0 x hw0
  have HV := hideIt (show M.val sa sc oa oc ba bc = .agg #[.int .i64 M.kind, .slice sa M.sys.length sc, .int .i64 M.config, .int .i64 M.result, .int .i64 M.reason, .slice oa M.objs.length oc, .slice ba M.obs.length bc] from rfl)
  rw [HV.out]
  generalize hk : M.kind = k at HW HX HV ⊢
  generalize hs : M.sys.length = s at HW HX HV ⊢
  generalize hc : M.config = c at HW HX HV ⊢
  generalize hre : M.result = r at HW HX HV ⊢
  generalize hq : M.reason = q at HW HX HV ⊢
  generalize ho : M.objs.length = o at HW HX HV ⊢
  generalize hb : M.obs.length = b at HW HX HV ⊢
  clear hk hs hc hre hq ho hb
  go_enter Try.func7, Try.ntmps7
  go_wp2_with fail
  rw [HW.out]
  refine H1.out.mono ?_
  clear H1 HW
  rintro e w1 ⟨rfl, a1⟩
  obtain ⟨hA, b0, x⟩ := HX.out
  have b1 := keep2 b0 a1
  obtain ⟨_, ⟨y0, y1, y2, y3, y4, y5, y6⟩, _⟩ := seven_at b1
  have x1 := (x.after (hA.trans a1)).upto
  have H2 := hideIt (pack_any w1 _ M sa sc oa oc ba bc x1 (fun k h => h.2))
  rw [HV.out] at H2
  have HY := hideIt (And.intro (hA.trans a1) (And.intro b1 x1))
  clear hA b0 x a1 b1 x1 HX
  go_wp2_with fail
  refine H2.out.mono ?_
  clear H2
  rintro e w2 ⟨a2, h2⟩
  obtain ⟨hA, b1, x1⟩ := HY.out
  rcases h2.split with ⟨c9, e1, rfl, hc9⟩ | ⟨_, us, e1, hbs, hl, pa, pc, rfl, o2⟩
  · have HZ := hideIt (hA.trans a2)
    clear h2 e1 a2 hA b1 x1 HY HV HM
    rcases hc9 with rfl | rfl
    all_goals
      go_wp2_with fail
      go_ret
      exact ⟨rfl, HZ.out⟩
  · obtain ⟨hu, hcut, hmore⟩ := back_unpack e1
    have hsh := pack_short e1
    have hl4 : 4 ≤ us.length := by
      obtain ⟨e9, _⟩ := pack_inv e1
      obtain ⟨bs, _, _, _, rfl⟩ := partW_inv e9
      unfold boxB
      rw [List.nil_append, List.length_append, List.length_append, bytesOf_length, bytesOf_length]
      omega
    obtain ⟨gp, pc', hq', r2, hpc, hgp, hgl⟩ := own_some o2 hbs (by omega)
    cases hq'
    obtain ⟨mr, mo, ml, hat⟩ := HM.out
    have hkl := brought_lt at' (show 0 < us.length by omega)
    have HB := hideIt (bring_any at' us.length w2 hat.1 hat.2 (by omega) (by omega))
    generalize hkk : broughtTo at' us.length = kk at hkl HB
    clear hkk
    have hk1 : (kk : Int) ≤ (pc : Int) := by omega
    have hk0 : (0 : Int) ≤ (kk : Int) := by omega
    have rk : Row w2 (some ⟨gp, 0, none⟩) kk (us.take kk) := r2.take (by omega)
    have H3 := hideIt (unpack_any w2 (some ⟨gp, 0, none⟩) kk pc (us.take kk) rk (fun h => by cases h) (by omega))
    rw [hcut (us.take kk) (us.drop kk) (List.take_append_drop kk us) (fun h => by have := congrArg List.length h; rw [List.length_drop] at this; simp at this; omega)] at H3
    have HZ := hideIt (And.intro (hA.trans a2) (And.intro o2 (And.intro r2 (And.intro hbs (And.intro hsh (And.intro hu (And.intro hmore mr)))))))
    have hpos : (us.length : Int) ≠ 0 := by omega
    clear h2 e1 a2 hA b1 x1 HY hu o2 hbs r2 y0 y1 y2 y3 y4 y5 y6 hl hsh hcut hmore rk mr mo ml hat hpc hgp hgl HV
    generalize hnu : us.length = nu at HB HZ hkl hpos hl4 ⊢
    have HNU := hideIt hnu
    clear hnu
    go_wp2_with (go_at_call 19; refine HB.out.mono ?_; rintro e w9 ⟨rfl, rfl⟩)
    refine H3.out.mono ?_
    clear H3 HB
    rintro e w3 ⟨a3, hc3, rfl⟩
    obtain ⟨hA, o2, r2, hbs, hl, hu, hmore, mr⟩ := HZ.out
    unfold Msg.val Msg.zero
    dsimp only [List.length_nil]
    obtain ⟨w4, hw4⟩ : ∃ w4, w3.alloc (.cells #[.int .i64 0, .slice none 0 0, .int .i64 0, .int .i64 0, .int .i64 0, .slice none 0 0, .slice none 0 0] 26) = w4 := ⟨_, rfl⟩
    have a4 : After w3 w4 := by rw [← hw4]; exact After.rfl.alloc _
    have H4 := hideIt (copy_any (some ⟨gp, 0, none⟩) nu pc us w4 (r2.after (a3.trans a4)) (fun h => by cases h) (by omega))
    have HW := hideIt hw4
    have HU := hideIt (And.intro (hA.trans (a3.trans a4)) (And.intro hbs (And.intro hl (And.intro hu (And.intro hmore mr)))))
    clear hA o2 r2 hbs hl hu hmore mr a3 a4 hw4 HZ hc3
    go_wp2_with fail
    rw [HW.out]
    refine H4.out.mono ?_
    clear H4
    rintro e w5 ⟨v, rfl, o5, a5⟩
    obtain ⟨hA, hbs, hl, hu, hmore, mr⟩ := HU.out
    obtain ⟨_, mo, ml, _⟩ := HM.out
    obtain ⟨va, vc, rfl⟩ := own_slice o5
    have HR5 := hideIt (mr.after (hA.trans a5))
    have HO5 := hideIt o5
    have hnm : nu + mn ≤ 140737488355328 := by omega
    have HMO := hideIt mo
    have HA5 := hideIt a5.size
    have HT := hideIt (And.intro (hA.trans a5) (And.intro hbs (And.intro hu (And.intro hmore (And.intro mr.2.1 hA.size)))))
    have HML := hideIt (And.intro mr.1 ml)
    clear hA hbs hl hu hmore mr mo ml a5 o5 HW HU HM
    go_wp2_with (at_builtin; refine app_row rfl (.tmp 35) (.tmp 36) rfl w4.heap.size _ nu us rfl HO5.out ma mn mc ms rfl HR5.out HMO.out hnm HA5.out ?_; intro v6 w6 hown hgrow; have O6 := hideIt hown; have G6 := hideIt hgrow; clear hown hgrow)
    obtain ⟨qa, qc, rfl⟩ := own_slice O6.out
    obtain ⟨hA, hbs, hu, hmore, hmb, hsz⟩ := HT.out
    obtain ⟨hml, ml⟩ := HML.out
    have a6 : After w w6 := hA.but.then G6.out (fun i hi h => by have := (HO5.out.lt i h).1; omega)
    obtain ⟨qa', qc', hq', r6, rn6, _, _⟩ := own_row O6.out (hbs.append hmb)
    cases hq'
    have H7 := hideIt (unpack_any w6 qa (nu + mn) qc (us ++ ms) r6 rn6 (by omega))
    have HA6 := hideIt a6
    by_cases hm0 : mn = 0
    · have hms : ms = [] := List.length_eq_zero_iff.1 (by omega)
      rw [hms, List.append_nil, hu] at H7
      clear hA hbs hu hmore hmb hsz hml ml a6 r6 rn6 O6 G6 HT HML HO5 HA5 HMO HR5 hnm hms HNU
      subst hm0
      go_wp2_with fail
      refine H7.out.mono ?_
      clear H7
      rintro e w7 ⟨a7, v, rfl, xa, xc, ya, yc, za, zc, rfl, _, _⟩
      have HA7 := hideIt (HA6.out.trans a7)
      clear a7 HA6
      unfold Msg.val
      obtain ⟨Xk, Xs, Xc, Xr, Xq, Xo, Xb⟩ := M
      dsimp only
      generalize Xs.length = n1
      generalize Xo.length = n2
      generalize Xb.length = n3
      go_wp2_with fail
      go_ret
      exact ⟨rfl, HA7.out.alloc _⟩
    · rw [hmore ms (fun h => hm0 (by rw [← hml, h]; rfl))] at H7
      have hm1 : (0 : Int) < (mn : Int) := by omega
      have hm2 : ((mn : Int) == 0) = false := by simpa using (show ¬ (mn : Int) = 0 by omega)
      clear hA hbs hu hmore hmb hsz hml ml a6 r6 rn6 O6 G6 HT HML HO5 HA5 HMO HR5 hnm HNU hm0
      go_wp2_with fail
      refine H7.out.mono ?_
      clear H7
      rintro e w7 ⟨a7, _, rfl⟩
      have HA7 := hideIt (HA6.out.trans a7)
      clear a7 HA6
      unfold Msg.val Msg.zero
      dsimp only [List.length_nil]
      go_wp2_with fail
      go_ret
      exact ⟨rfl, HA7.out.alloc _⟩
end Go.Proofs.Ytigiakhdaaoljaa
