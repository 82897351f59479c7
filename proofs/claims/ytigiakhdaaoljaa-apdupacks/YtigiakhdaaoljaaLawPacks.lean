/-
  ApduPacks.
-/
import Derived.Test.YtigiakhdaaoljaaRefPack
import Derived.Test.YtigiakhdaaoljaaCopyM
namespace Go.Proofs.Ytigiakhdaaoljaa
open Go.RowKit
set_option maxRecDepth 8000
set_option maxHeartbeats 2000000 in
theorem law_packs (w : World) (P : Nat → Prop) (M : Msg) (sa : Option Addr) (sc : Nat) (oa : Option Addr) (oc : Nat) (ba : Option Addr) (bc : Nat) (x : MsgX w P M sa sc oa oc ba bc) (hob : M.objs.length * 24 ≤ 140737488355328) (hbb : M.obs.length * 16 ≤ 140737488355328) :
    Calls Try.prog 3 #[M.val sa sc oa oc ba bc] w fun e w' => e = .returned (.bool true) ∧ After w w' := by
  obtain ⟨w0, hw0⟩ : ∃ w0, w.alloc (.cells (M.cells sa sc oa oc ba bc) 26) = w0 := ⟨_, rfl⟩
  have hA : After w w0 := by rw [← hw0]; exact After.rfl.alloc _
  have b0 : w0.heap[w.heap.size]? = some (.cells (M.cells sa sc oa oc ba bc) 26 (0, 0)) := by rw [← hw0]; exact new1 _ _
  have H1 := hideIt (copy_msg w0 P M sa sc oa oc ba bc (x.after hA) hob hbb)
  unfold Msg.cells at hw0 b0
  have HW := hideIt hw0
  have HX := hideIt (And.intro hA (And.intro b0 x))
  have HL := hideIt (And.intro hob hbb)
  clear hA b0 x hw0 hob hbb
  have HV := hideIt (show M.val sa sc oa oc ba bc = .agg #[.int .i64 M.kind, .slice sa M.sys.length sc, .int .i64 M.config, .int .i64 M.result, .int .i64 M.reason, .slice oa M.objs.length oc, .slice ba M.obs.length bc] from rfl)
  have HV2 := hideIt (show ∀ sa' sc' oa' oc' ba' bc', M.val sa' sc' oa' oc' ba' bc' = .agg #[.int .i64 M.kind, .slice sa' M.sys.length sc', .int .i64 M.config, .int .i64 M.result, .int .i64 M.reason, .slice oa' M.objs.length oc', .slice ba' M.obs.length bc'] from fun _ _ _ _ _ _ => rfl)
  rw [HV.out] at H1 ⊢
  generalize hk : M.kind = k at HW HX HV HV2 H1 ⊢
  generalize hs : M.sys.length = s at HW HX HV HV2 H1 ⊢
  generalize hc : M.config = c at HW HX HV HV2 H1 ⊢
  generalize hre : M.result = r at HW HX HV HV2 H1 ⊢
  generalize hq : M.reason = q at HW HX HV HV2 H1 ⊢
  generalize ho : M.objs.length = o at HW HX HV HV2 H1 HL ⊢
  generalize hb : M.obs.length = b at HW HX HV HV2 H1 HL ⊢
  have HLL := hideIt (And.intro ho hb)
  clear hk hs hc hre hq ho hb
  go_enter Try.func3, Try.ntmps3
  go_wp2_with fail
  rw [HW.out]
  refine H1.out.mono ?_
  clear H1 HW
  rintro e w1 ⟨ta, tc, ua, uc, va, vc, rfl, x1, a1⟩
  rw [HV2.out]
  obtain ⟨hA, b0, x⟩ := HX.out
  obtain ⟨w2, hw2⟩ : ∃ w2, w1.alloc (.cells #[.int .i64 k, .slice ta s tc, .int .i64 c, .int .i64 r, .int .i64 q, .slice ua o uc, .slice va b vc] 26) = w2 := ⟨_, rfl⟩
  have a2 : After w1 w2 := by rw [← hw2]; exact After.rfl.alloc _
  have d1 : w2.heap[w1.heap.size]? = some (.cells #[.int .i64 k, .slice ta s tc, .int .i64 c, .int .i64 r, .int .i64 q, .slice ua o uc, .slice va b vc] 26 (0, 0)) := by rw [← hw2]; exact new1 _ _
  have d0 := keep2 b0 (a1.trans a2)
  have x2 := (x1.after a2).upto
  have H2 := hideIt (pack_any w2 _ M ta tc ua uc va vc x2 (fun k h => h.2))
  rw [HV2.out] at H2
  have HW := hideIt hw2
  have HY := hideIt (And.intro (hA.trans (a1.trans a2)) (And.intro d0 (And.intro d1 (And.intro x2 (x.after (hA.trans (a1.trans a2)))))))
  clear hA b0 x a1 a2 d0 d1 x1 x2 hw2 HX
  go_wp2_with fail
  rw [HW.out]
  refine H2.out.mono ?_
  clear H2 HW
  rintro e w3 ⟨a3, h3⟩
  obtain ⟨hA, d0, d1, x2, x⟩ := HY.out
  have f0 := keep2 d0 a3
  have f1 := keep2 d1 a3
  obtain ⟨_, ⟨y0, y1, y2, y3, y4, y5, y6⟩, _⟩ := seven_at f0
  have x3 := (x.after a3)
  have H3 := hideIt (rpack_any w3 _ M sa sc oa oc ba bc x3)
  rw [HV.out] at H3
  have HZ := hideIt (And.intro (hA.trans a3) (And.intro f0 (And.intro f1 (And.intro (x2.after a3) x3))))
  have hlo : M.objs.length ≤ 140737488355328 ∧ M.obs.length ≤ 140737488355328 := by have := HL.out; have := HLL.out; omega
  have HLO := hideIt hlo
  clear hA d0 d1 x2 x a3 f0 f1 x3 HY hlo HL HLL
  have HFIN : Hid (∀ w5, After w3 w5 → Calls Try.prog 13 #[.agg #[.int .i64 k, .slice ta s tc, .int .i64 c, .int .i64 r, .int .i64 q, .slice ua o uc, .slice va b vc], .agg #[.int .i64 k, .slice sa s sc, .int .i64 c, .int .i64 r, .int .i64 q, .slice oa o oc, .slice ba b bc]] w5 fun e w6 => e = .returned (.bool true) ∧ After w5 w6) := fun w5 a5 => by
    obtain ⟨_, _, _, xa, xb⟩ := HZ.out
    have h := same13 w5 _ _ M M ta tc ua uc va vc sa sc oa oc ba bc (xa.after a5) (xb.after a5) (fun _ => rfl) (fun _ => rfl) (fun _ => rfl) HLO.out.1 HLO.out.2
    rw [HV2.out, HV.out, show eqM M M = true from decide_eq_true ⟨rfl, rfl, rfl, rfl, rfl, rfl, rfl⟩] at h
    exact h
  rcases h3.split with ⟨c9, e1, rfl, _⟩ | ⟨_, us, e1, hbs, hl, pa, pc, rfl, o3⟩
  · rw [e1] at H3
    clear h3 e1
    go_wp2_with fail
    refine H3.out.mono ?_
    clear H3
    rintro e w4 ⟨a4, rfl⟩
    obtain ⟨hA, f0, f1, _, _⟩ := HZ.out
    have g0 := keep2 f0 a4
    have g1 := keep2 f1 a4
    obtain ⟨_, ⟨p0, p1, p2, p3, p4, p5, p6⟩, _⟩ := seven_at g0
    obtain ⟨_, ⟨q0, q1, q2, q3, q4, q5, q6⟩, _⟩ := seven_at g1
    have HE := hideIt (eqBytes_same none none 0 0 0 [] w4 (Row.nil _ _) (Row.nil _ _) (by decide))
    have HA4 := hideIt (And.intro hA (And.intro a4 (And.intro g0 g1)))
    clear hA f0 f1 g0 g1 a4 HZ y0 y1 y2 y3 y4 y5 y6
    go_wp2_with (first
      | (go_at_call 12; refine HE.out.mono ?_; rintro e w5 ⟨rfl, h5⟩; obtain ⟨_, ⟨r0, r1, r2, r3, r4, r5, r6⟩, _⟩ := seven_at (keep2 HA4.out.2.2.1 h5); obtain ⟨_, ⟨s0, s1, s2, s3, s4, s5, s6⟩, _⟩ := seven_at (keep2 HA4.out.2.2.2 h5); have H5 := hideIt h5; clear h5)
      | (go_at_call 13; refine (HFIN.out _ (HA4.out.2.1.trans H5.out)).mono ?_; rintro e w6 ⟨rfl, h6⟩; have H6 := hideIt h6; clear h6)
      | (go_at_call 14; refine (awake_any _).mono ?_; rintro e w7 ⟨rfl, h7⟩; have H7 := hideIt h7; clear h7))
    go_ret
    exact ⟨rfl, HA4.out.1.trans (HA4.out.2.1.trans (H5.out.trans (H6.out.trans H7.out)))⟩
  · rw [e1] at H3
    obtain ⟨pa', pc', hq', r3, _, _, _⟩ := own_row o3 hbs
    cases hq'
    have HP := hideIt (And.intro r3 (And.intro hbs hl))
    clear h3 e1 o3 r3 hbs hl
    generalize hnu : us.length = nu at HP ⊢
    have HNU := hideIt hnu
    clear hnu
    go_wp2_with fail
    refine H3.out.mono ?_
    clear H3
    rintro e w4 ⟨a4, hbs, _, qa, qc, rfl, o4⟩
    obtain ⟨qa', qc', hq', r4, _, _, _⟩ := own_row o4 hbs
    cases hq'
    obtain ⟨hA, f0, f1, _, _⟩ := HZ.out
    have g0 := keep2 f0 a4
    have g1 := keep2 f1 a4
    obtain ⟨_, ⟨p0, p1, p2, p3, p4, p5, p6⟩, _⟩ := seven_at g0
    obtain ⟨_, ⟨q0, q1, q2, q3, q4, q5, q6⟩, _⟩ := seven_at g1
    rw [HNU.out] at r4 ⊢
    have HE := hideIt (eqBytes_same pa qa nu pc qc us w4 (HP.out.1.after a4) r4 (by have := HP.out.2.2; omega))
    have HA4 := hideIt (And.intro hA (And.intro a4 (And.intro g0 g1)))
    clear hA f0 f1 g0 g1 a4 HZ y0 y1 y2 y3 y4 y5 y6 o4 hbs r4
    go_wp2_with (first
      | (go_at_call 12; refine HE.out.mono ?_; rintro e w5 ⟨rfl, h5⟩; obtain ⟨_, ⟨r0, r1, r2, r3, r4, r5, r6⟩, _⟩ := seven_at (keep2 HA4.out.2.2.1 h5); obtain ⟨_, ⟨s0, s1, s2, s3, s4, s5, s6⟩, _⟩ := seven_at (keep2 HA4.out.2.2.2 h5); have H5 := hideIt h5; clear h5)
      | (go_at_call 13; refine (HFIN.out _ (HA4.out.2.1.trans H5.out)).mono ?_; rintro e w6 ⟨rfl, h6⟩; have H6 := hideIt h6; clear h6)
      | (go_at_call 14; refine (awake_any _).mono ?_; rintro e w7 ⟨rfl, h7⟩; have H7 := hideIt h7; clear h7))
    go_ret
    exact ⟨rfl, HA4.out.1.trans (HA4.out.2.1.trans (H5.out.trans (H6.out.trans H7.out)))⟩
end Go.Proofs.Ytigiakhdaaoljaa
