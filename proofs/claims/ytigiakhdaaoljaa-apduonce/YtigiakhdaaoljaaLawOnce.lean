/-
  ApduOnce.
-/
import Derived.Test.YtigiakhdaaoljaaAwake
import Derived.Test.YtigiakhdaaoljaaPacked
namespace Go.Proofs.Ytigiakhdaaoljaa
open Go.RowKit
set_option maxRecDepth 8000
set_option maxHeartbeats 1000000 in
theorem law_once (w : World) (a : Option Addr) (n c : Nat) (bs : List Int) (hr : Row w a n bs) (ha : a = none → n = 0 ∧ c = 0) (hn : n ≤ 140737488355328) :
    Calls Try.prog 6 #[.slice a n c] w fun e w' => e = .returned (.bool true) ∧ After w w' := by
  have H1 := hideIt (awake_any w)
  have HR := hideIt (And.intro hr (And.intro ha hn))
  clear hr ha hn
  go_enter Try.func6, Try.ntmps6
  go_wp2_with fail
  refine H1.out.mono ?_
  clear H1
  rintro e w1 ⟨rfl, a1⟩
  obtain ⟨hr, ha, hn⟩ := HR.out
  have H2 := hideIt (unpack_any w1 a n c bs (hr.after a1) ha hn)
  have HA := hideIt a1
  clear a1 hr ha hn
  go_wp2_with fail
  refine H2.out.mono ?_
  clear H2
  rintro e w2 ⟨a2, h2⟩
  have hA2 := HA.out.trans a2
  rcases h2.split with ⟨c9, e1, hc, rfl⟩ | ⟨X, us, e1, v, rfl, xa, xc, ya, yc, za, zc, rfl, x2, _⟩
  · have hc9 := msg_errr e1
    have hcb : (c9 != 0) = true := by simpa using hc
    unfold Msg.val Msg.zero
    dsimp only [List.length_nil]
    obtain ⟨w3, hw3⟩ : ∃ w3, w2.alloc (.cells #[.int .i64 0, .slice none 0 0, .int .i64 0, .int .i64 0, .int .i64 0, .slice none 0 0, .slice none 0 0] 26) = w3 := ⟨_, rfl⟩
    have a3 : After w2 w3 := by rw [← hw3]; exact After.rfl.alloc _
    have HS := hideIt (same18 w3 (fun _ => True) (fun _ => True) (Msg.zero 0) (Msg.zero 0) none 0 none 0 none 0 none 0 none 0 none 0 (MsgX.nils _ _ _ _ _ _) (MsgX.nils _ _ _ _ _ _) (fun _ => rfl) (fun _ => rfl) (fun _ => rfl) (by decide) (by decide))
    have HX := hideIt (And.intro hA2 a3)
    have HW := hideIt hw3
    clear hA2 a3 h2 e1 hc a2 HA HR hw3
    rcases hc9 with rfl | rfl | rfl
    all_goals
      go_wp2_with (go_at_call 18; rw [HW.out]; refine HS.out.mono ?_; rintro e w4 ⟨rfl, h4⟩; rw [show eqM (Msg.zero 0) (Msg.zero 0) = true from rfl]; have H4 := hideIt h4; clear h4)
      go_ret
      exact ⟨rfl, HX.out.1.trans (HX.out.2.trans H4.out)⟩
  · obtain ⟨hr, ha, hn⟩ := HR.out
    obtain ⟨hp, _⟩ := once_pack hr.2.1 e1
    obtain ⟨w3, hw3⟩ : ∃ w3, w2.alloc (.cells (X.cells xa xc ya yc za zc) 26) = w3 := ⟨_, rfl⟩
    have a3 : After w2 w3 := by rw [← hw3]; exact After.rfl.alloc _
    have H3 := hideIt (pack_any w3 _ X xa xc ya yc za zc (x2.after a3).upto (fun k h => h.2))
    rw [hp] at H3
    have HX := hideIt (And.intro (hA2.trans a3) (And.intro hr hn))
    unfold Msg.cells at hw3
    have HW := hideIt hw3
    clear hA2 a3 h2 e1 a2 HA HR hw3 x2 hr ha hn hp
    unfold Msg.val
    unfold Msg.val at H3
    obtain ⟨Xk, Xs, Xc, Xr, Xq, Xo, Xb⟩ := X
    dsimp only at H3 HW ⊢
    generalize Xs.length = n1 at H3 HW ⊢
    generalize Xo.length = n2 at H3 HW ⊢
    generalize Xb.length = n3 at H3 HW ⊢
    go_wp2_with fail
    rw [HW.out]
    refine H3.out.mono ?_
    clear H3
    rintro e w4 ⟨a4, hbs, hl, pa, pc, rfl, o4⟩
    obtain ⟨pa', pc', hq, r4, _, _, _⟩ := own_row o4 hbs
    cases hq
    obtain ⟨hA, hr, hn⟩ := HX.out
    have hbn := hr.1
    rw [hbn] at r4 ⊢
    have HE := hideIt (eqBytes_same pa a n pc c bs w4 r4 (hr.after (hA.trans a4)) hn)
    have HZ := hideIt (hA.trans a4)
    clear hA a4 o4 hbs hl r4 hr hn HX hbn
    go_wp2_with (go_at_call 12; refine HE.out.mono ?_; rintro e w5 ⟨rfl, h5⟩; have H5 := hideIt h5; clear h5)
    go_ret
    exact ⟨rfl, HZ.out.trans H5.out⟩
end Go.Proofs.Ytigiakhdaaoljaa
