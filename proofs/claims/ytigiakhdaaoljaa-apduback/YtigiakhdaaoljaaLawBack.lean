/-
  ApduBack.
-/
import Derived.Test.YtigiakhdaaoljaaAwake
import Derived.Test.YtigiakhdaaoljaaPacked
namespace Go.Proofs.Ytigiakhdaaoljaa
open Go.RowKit
set_option maxRecDepth 8000
set_option maxHeartbeats 1000000 in
theorem law_back (w : World) (P : Nat → Prop) (M : Msg) (sa : Option Addr) (sc : Nat) (oa : Option Addr) (oc : Nat) (ba : Option Addr) (bc : Nat) (x : MsgX w P M sa sc oa oc ba bc) :
    Calls Try.prog 5 #[M.val sa sc oa oc ba bc] w fun e w' => e = .returned (.bool true) ∧ After w w' := by
  obtain ⟨w0, hw0⟩ : ∃ w0, w.alloc (.cells (M.cells sa sc oa oc ba bc) 26) = w0 := ⟨_, rfl⟩
  have hA : After w w0 := by rw [← hw0]; exact After.rfl.alloc _
  have b0 : w0.heap[w.heap.size]? = some (.cells (M.cells sa sc oa oc ba bc) 26 (0, 0)) := by rw [← hw0]; exact new1 _ _
  have H1 := hideIt (awake_any w0)
  unfold Msg.cells at hw0 b0
  have HW := hideIt hw0
  have HX := hideIt (And.intro hA (And.intro b0 x))
  clear hA b0 x hw0
  have HV := hideIt (show M.val sa sc oa oc ba bc = .agg #[.int .i64 M.kind, .slice sa M.sys.length sc, .int .i64 M.config, .int .i64 M.result, .int .i64 M.reason, .slice oa M.objs.length oc, .slice ba M.obs.length bc] from rfl)
  rw [HV.out]
  generalize hk : M.kind = k at HW HX HV ⊢
  generalize hs : M.sys.length = s at HW HX HV ⊢
  generalize hc : M.config = c at HW HX HV ⊢
  generalize hre : M.result = r at HW HX HV ⊢
  generalize hq : M.reason = q at HW HX HV ⊢
  generalize ho : M.objs.length = o at HW HX HV ⊢
  generalize hb : M.obs.length = b at HW HX HV ⊢
  clear hk hs hc hre hq ho hb
  go_enter Try.func5, Try.ntmps5
  go_wp2_with fail
  rw [HW.out]
  refine H1.out.mono ?_
  clear H1 HW
  rintro e w1 ⟨rfl, a1⟩
  obtain ⟨hA, b0, x⟩ := HX.out
  have b1 := keep2 b0 a1
  obtain ⟨_, ⟨y0, y1, y2, y3, y4, y5, y6⟩, _⟩ := seven_at b1
  have x1 := (x.after (hA.trans a1)).upto
  have H2 := hideIt (pack_any w1 _ M sa sc oa oc ba bc x1 (fun k h => h.2))
  rw [HV.out] at H2
  have HY := hideIt (And.intro (hA.trans a1) (And.intro b1 x1))
  clear hA b0 x a1 b1 x1 HX
  go_wp2_with fail
  refine H2.out.mono ?_
  clear H2
  rintro e w2 ⟨a2, h2⟩
  obtain ⟨hA, b1, x1⟩ := HY.out
  rcases h2.split with ⟨c9, e1, rfl, hc9⟩ | ⟨_, us, e1, hbs, hl, pa, pc, rfl, o2⟩
  · have HZ := hideIt (hA.trans a2)
    clear h2 e1 a2 hA b1 x1 HY HV
    rcases hc9 with rfl | rfl
    all_goals
      go_wp2_with fail
      go_ret
      exact ⟨rfl, HZ.out⟩
  · obtain ⟨hu, _, _⟩ := back_unpack e1
    obtain ⟨_, hol, hbl⟩ := pack_inv e1
    obtain ⟨pa', pc', hq', r2, rn2, _, _⟩ := own_row o2 hbs
    cases hq'
    have b2 := keep2 b1 a2
    obtain ⟨_, ⟨z0, z1, z2, z3, z4, z5, z6⟩, _⟩ := seven_at b2
    have H3 := hideIt (unpack_any w2 pa us.length pc us r2 rn2 (by omega))
    rw [hu] at H3
    have HZ := hideIt (And.intro (hA.trans a2) (And.intro b2 (And.intro (x1.after a2) (And.intro hol hbl))))
    clear h2 e1 a2 hA b1 x1 HY hu hol hbl o2 hbs r2 rn2 b2 y0 y1 y2 y3 y4 y5 y6 hl
    generalize us.length = nu at H3 ⊢
    go_wp2_with fail
    refine H3.out.mono ?_
    clear H3
    rintro e w3 ⟨a3, v, rfl, xa, xc, ya, yc, za, zc, rfl, x3, _⟩
    obtain ⟨hA, b2, x2, hol, hbl⟩ := HZ.out
    obtain ⟨w4, hw4⟩ : ∃ w4, w3.alloc (.cells (M.cells xa xc ya yc za zc) 26) = w4 := ⟨_, rfl⟩
    have a4 : After w3 w4 := by rw [← hw4]; exact After.rfl.alloc _
    have HS := hideIt (same18 w4 _ _ M M xa xc ya yc za zc sa sc oa oc ba bc (x3.after a4) (x2.after (a3.trans a4)) (fun _ => rfl) (fun _ => rfl) (fun _ => rfl) (by omega) (by omega))
    have b3 := keep2 b2 a3
    obtain ⟨_, ⟨v0, v1, v2, v3, v4, v5, v6⟩, _⟩ := seven_at b3
    rw [HV.out] at HS
    rw [show eqM M M = true from decide_eq_true ⟨rfl, rfl, rfl, rfl, rfl, rfl, rfl⟩] at HS
    unfold Msg.val at HS
    unfold Msg.cells at hw4
    have HW := hideIt hw4
    have HU := hideIt (hA.trans (a3.trans a4))
    clear hA b2 x2 hol hbl a3 a4 x3 b3 hw4 HZ HV z0 z1 z2 z3 z4 z5 z6
    unfold Msg.val
    obtain ⟨Xk, Xs, Xc, Xr, Xq, Xo, Xb⟩ := M
    dsimp only at HS HW ⊢
    generalize Xs.length = n1 at HS HW ⊢
    generalize Xo.length = n2 at HS HW ⊢
    generalize Xb.length = n3 at HS HW ⊢
    go_wp2_with (go_at_call 18; rw [HW.out]; refine HS.out.mono ?_; rintro e w5 ⟨rfl, h5⟩; have H5 := hideIt h5; clear h5)
    go_ret
    exact ⟨rfl, HU.out.trans H5.out⟩
end Go.Proofs.Ytigiakhdaaoljaa
