/-
  Laid together: LawUnpacks.
-/
import Derived.Test.YtigiakhdaaoljaaB26
import Derived.Test.YtigiakhdaaoljaaB17
import Derived.Laws.BitsAllLaws
/-
  ApduUnpacks.
-/
namespace Go.Proofs.Ytigiakhdaaoljaa
open Go.RowKit
set_option maxRecDepth 8000
theorem u8_x8 {a b : Nat} (ha : a < 256) (hb : b < 256) : a ^^^ b < 256 := Nat.xor_lt_two_pow (n := 8) ha hb
/-- What is owned, turned at a place. -/
theorem own_round {W : World} {B n c k : Nat} {a : Option Addr} {xs : List Int} (ho : W.ownsRow B 5 1 (.slice a n c) n (u8s xs)) (hb : Bs xs) (hk : k < n) :
    ∃ g x : Nat, a = some ⟨g, 0, none⟩ ∧ W.cell? ⟨g, k, none⟩ = some (.int .u8 x) ∧ x < 256 ∧ W.frozen? ⟨g, k, none⟩ = false ∧ B ≤ g ∧ g < W.heap.size ∧
      ∀ y : Int, 0 ≤ y ∧ y ≤ 255 → ∃ ys, (W.setCell ⟨g, k, none⟩ (.int .u8 y)).ownsRow B 5 1 (.slice a n c) n (u8s ys) ∧ Bs ys ∧ But (One g) W (W.setCell ⟨g, k, none⟩ (.int .u8 y)) := by
  have hl : xs.length = n := by have := ho.1; simp [u8s] at this; exact this
  rcases ho.2 with ⟨e, rfl⟩ | ⟨g, cap, cur, e, _⟩
  · omega
  · cases e
    have hx := hb.at (i := k) (by omega)
    refine ⟨g, (xs.getD k 0).toNat, rfl, ?_, by omega, ho.frozenAt k, (ho.lt g rfl).1, (ho.lt g rfl).2, fun y hy => ⟨xs.set k y, ?_, ?_, But.own1 _ _ _ _⟩⟩
    · rw [ho.cellAt k (by omega), Int.toNat_of_nonneg hx.1]
      simp [u8s, show k < xs.length by omega]
    · have h1 := (ho.stored k (.int .u8 y)).1
      have e : (u8s xs).set k (.int .u8 y) = u8s (xs.set k y) := by unfold u8s; rw [List.map_set]
      rw [e] at h1; exact h1
    · intro z hz
      rcases List.mem_or_eq_of_mem_set hz with h1 | h1
      · exact hb z h1
      · subst h1; exact hy
theorem xor_byte (x : Nat) (h : x < 256) : 0 ≤ _root_.Go.bits .xor .u8 (x : Int) 90 ∧ _root_.Go.bits .xor .u8 (x : Int) 90 ≤ 255 := by
  have e : _root_.Go.bits .xor .u8 (x : Int) ((90 : Nat) : Int) = ((x ^^^ 90 : Nat) : Int) := u8_xor_nat x 90 h (by decide)
  have e2 : ((90 : Nat) : Int) = 90 := rfl
  rw [e2] at e
  have := u8_x8 h (show 90 < 256 by decide)
  rw [e]; omega
/-- The block of a slice. -/
def BlkOf (a : Option Addr) : Nat → Prop := fun q => ∃ x, a = some x ∧ x.block = q
set_option maxHeartbeats 2000000 in
theorem law_unpacks (w : World) (a : Option Addr) (n c : Nat) (bs : List Int) (hr : Row w a n bs) (ha : a = none → n = 0 ∧ c = 0) (hn : n ≤ 140737488355328) (hnc : n ≤ c) :
    Calls Try.prog 4 #[.slice a n c] w fun e w' => e = .returned (.bool true) ∧ After w w' := by
  have H1 := hideIt (copy_any a n c bs w hr ha hn)
  have HR := hideIt (And.intro hr (And.intro ha (And.intro hn hnc)))
  clear hr ha hn hnc
  go_enter Try.func4, Try.ntmps4
  go_wp2_with fail
  refine H1.out.mono ?_
  clear H1
  rintro e w1 ⟨v1, rfl, o1, a1⟩
  obtain ⟨p1, q1, rfl, r1, rn1, _, rb1⟩ := own_row o1 HR.out.1.2.1
  have H2 := hideIt (unpack_any w1 p1 n q1 bs r1 rn1 HR.out.2.2.1)
  have HO1 := hideIt (And.intro r1 (And.intro (show ∀ y, p1 = some y → 0 < n → y.block < w1.heap.size from fun y hy h0 => by obtain ⟨b, off, e, hl, _⟩ := r1.2.2 0 h0; rw [hy] at e; cases e; exact hl) a1))
  clear o1 a1 r1 rn1 rb1
  go_wp2_with fail
  refine H2.out.mono ?_
  clear H2
  rintro e w2 ⟨a2, h2⟩
  rcases h2.split with ⟨c9, e1, hc9, rfl⟩ | ⟨X, us, e1, v, rfl, ta, tc, ua, uc, va, vc, rfl, x2, o2⟩
  · have a12 := HO1.out.2.2.trans a2
    obtain ⟨w3, hw3⟩ : ∃ w3, w2.alloc (.cells #[.int .i64 0, .slice none 0 0, .int .i64 0, .int .i64 0, .int .i64 0, .slice none 0 0, .slice none 0 0] 26) = w3 := ⟨_, rfl⟩
    have a3 : After w2 w3 := by rw [← hw3]; exact After.rfl.alloc _
    have d3 : w3.heap[w2.heap.size]? = some (.cells #[.int .i64 0, .slice none 0 0, .int .i64 0, .int .i64 0, .int .i64 0, .slice none 0 0, .slice none 0 0] 26 (0, 0)) := by rw [← hw3]; exact new1 _ _
    have H3 := hideIt (runpack_any w3 a n c bs (HR.out.1.after (a12.trans a3)) HR.out.2.1 HR.out.2.2.1 HR.out.2.2.2)
    rw [e1] at H3
    have HX := hideIt (And.intro (a12.trans a3) (And.intro (a2.trans a3) d3))
    have HW := hideIt hw3
    clear a12 a3 d3 hw3 h2 e1 a2 hc9
    unfold Msg.val Msg.zero
    dsimp only [List.length_nil]
    go_wp2_with fail
    rw [HW.out]
    refine H3.out.mono ?_
    clear H3 HW
    rintro e w4 ⟨a4, h4⟩
    obtain rfl : e = .returned (.tuple #[.agg #[.int .i64 0, .slice none 0 0, .int .i64 0, .int .i64 0, .int .i64 0, .slice none 0 0, .slice none 0 0], .int .i64 c9]) := h4
    obtain ⟨w5, hw5⟩ : ∃ w5, w4.alloc (.cells #[.int .i64 0, .slice none 0 0, .int .i64 0, .int .i64 0, .int .i64 0, .slice none 0 0, .slice none 0 0] 26) = w5 := ⟨_, rfl⟩
    have a5 : After w4 w5 := by rw [← hw5]; exact After.rfl.alloc _
    have d5 : w5.heap[w4.heap.size]? = some (.cells #[.int .i64 0, .slice none 0 0, .int .i64 0, .int .i64 0, .int .i64 0, .slice none 0 0, .slice none 0 0] 26 (0, 0)) := by rw [← hw5]; exact new1 _ _
    have d4 := keep2 HX.out.2.2 (a4.trans a5)
    obtain ⟨hgl4, ⟨y0, y1, y2, y3, y4, y5, y6⟩, _⟩ := seven_at (keep2 HX.out.2.2 a4)
    have HS := hideIt (same13 w5 (fun _ => True) (fun _ => True) (Msg.zero 0) (Msg.zero 0) none 0 none 0 none 0 none 0 none 0 none 0 (MsgX.nils _ _ _ _ _ _) (MsgX.nils _ _ _ _ _ _) (fun _ => rfl) (fun _ => rfl) (fun _ => rfl) (by decide) (by decide))
    have aw5 := HX.out.1.trans (a4.trans a5)
    have HQ := hideIt (show ∀ W, After w5 W → Calls Try.prog 12 #[.slice p1 n q1, .slice a n c] W fun e w' => e = .returned (.bool true) ∧ After W w' from fun W t => eqBytes_same p1 a n q1 c bs W (HO1.out.1.after (HX.out.2.1.trans (a4.trans (a5.trans t)))) (HR.out.1.after (aw5.trans t)) HR.out.2.2.1)
    have HW5 := hideIt hw5
    have HZ := hideIt (And.intro aw5 (And.intro d4 d5))
    rw [show eqM (Msg.zero 0) (Msg.zero 0) = true from rfl] at HS
    unfold Msg.val Msg.zero at HS
    dsimp only [List.length_nil] at HS
    clear a4 a5 d5 d4 aw5 hw5
    obtain ⟨gx, hgx⟩ : ∃ gx, w2.heap.size = gx := ⟨_, rfl⟩
    obtain ⟨gy, hgy⟩ : ∃ gy, w4.heap.size = gy := ⟨_, rfl⟩
    rw [hgx] at HZ HX hgl4 y0 y1 y2 y3 y4 y5 y6 ⊢
    have HGY := hideIt hgy
    clear hgx hgy
    go_wp2_with (first
      | (go_at_call 13; rw [HW5.out]; refine HS.out.mono ?_; rintro e w6 ⟨rfl, h6⟩; have H6 := hideIt h6; clear h6; obtain ⟨_, ⟨g0, g1, g2, g3, g4, g5, g6⟩, _⟩ := seven_at (keep2 HZ.out.2.1 H6.out))
      | (go_at_call 12; refine (HQ.out _ H6.out).mono ?_; rintro e w7 ⟨rfl, h7⟩; have H7 := hideIt h7; clear h7; obtain ⟨_, ⟨k0, k1, k2, k3, k4, k5, k6⟩, _⟩ := seven_at (keep2 HZ.out.2.1 (H6.out.trans H7.out))))
    go_loopw [8] (fun i wr => i = .int .i64 0 ∧ wr = w7) (fun _ _ => 0)
    case atStart => exact ⟨rfl, rfl⟩
    case round =>
      obtain ⟨rfl, rfl⟩ := hrel
      go_wp2_with (first
        | (go_at_call 12; refine (HQ.out _ (H6.out.trans H7.out)).mono ?_; rintro e w8 ⟨rfl, h8⟩; have H8 := hideIt h8; clear h8)
        | (go_at_call 14; refine (awake_any _).mono ?_; rintro e w9 ⟨rfl, h9⟩; have H9 := hideIt h9; clear h9))
      go_ret
      exact ⟨rfl, HZ.out.1.trans (H6.out.trans (H7.out.trans (H8.out.trans H9.out)))⟩
  · have a12 := HO1.out.2.2.trans a2
    have hbX := once_pack HR.out.1.2.1 e1
    have hsz12 := a2.size
    obtain ⟨w3, hw3⟩ : ∃ w3, w2.alloc (.cells (X.cells ta tc ua uc va vc) 26) = w3 := ⟨_, rfl⟩
    have a3 : After w2 w3 := by rw [← hw3]; exact After.rfl.alloc _
    have d3 : w3.heap[w2.heap.size]? = some (.cells (X.cells ta tc ua uc va vc) 26 (0, 0)) := by rw [← hw3]; exact new1 _ _
    have H3 := hideIt (runpack_any w3 a n c bs (HR.out.1.after (a12.trans a3)) HR.out.2.1 HR.out.2.2.1 HR.out.2.2.2)
    rw [e1] at H3
    unfold Msg.cells at hw3 d3
    have HX := hideIt (And.intro (a12.trans a3) (And.intro (a2.trans a3) (And.intro d3 (And.intro (x2.after a3) (own_after o2 a3)))))
    have HW := hideIt hw3
    have HBX := hideIt (And.intro hbX.2 (show Bs X.sys from x2.sr.2.1))
    have HVX := hideIt (show ∀ sa' sc' oa' oc' ba' bc', X.val sa' sc' oa' oc' ba' bc' = .agg #[.int .i64 X.kind, .slice sa' X.sys.length sc', .int .i64 X.config, .int .i64 X.result, .int .i64 X.reason, .slice oa' X.objs.length oc', .slice ba' X.obs.length bc'] from fun _ _ _ _ _ _ => rfl)
    have HSL := hideIt x2.sl
    have HTB := hideIt (show ∀ k, (Value.slice ta X.sys.length tc).ownBlock = some k → w1.heap.size ≤ k ∧ k < w2.heap.size from fun k hk => o2.lt k hk)
    clear a12 a3 d3 hw3 h2 e1 a2 x2 o2 hbX
    rw [HVX.out]
    generalize hxk : X.kind = k at HW HX HVX ⊢
    generalize hxs : X.sys.length = s at HW HX HVX HTB HSL ⊢
    generalize hxc : X.config = cf at HW HX HVX ⊢
    generalize hxr : X.result = rr at HW HX HVX ⊢
    generalize hxq : X.reason = q at HW HX HVX ⊢
    generalize hxo : X.objs.length = o at HW HX HVX ⊢
    generalize hxb : X.obs.length = b at HW HX HVX ⊢
    clear hxk hxs hxc hxr hxq hxo hxb
    go_wp2_with fail
    rw [HW.out]
    refine H3.out.mono ?_
    clear H3 HW
    rintro e w4 ⟨a4, sa, sc, oa, oc, ba, bc, rfl, x4⟩
    rw [HVX.out]
    obtain ⟨w5, hw5⟩ : ∃ w5, w4.alloc (.cells #[.int .i64 k, .slice sa s sc, .int .i64 cf, .int .i64 rr, .int .i64 q, .slice oa o oc, .slice ba b bc] 26) = w5 := ⟨_, rfl⟩
    have a5 : After w4 w5 := by rw [← hw5]; exact After.rfl.alloc _
    obtain ⟨aw3, a13, d3, x3, o3⟩ := HX.out
    have d4 := keep2 d3 (a4.trans a5)
    obtain ⟨hgl4, ⟨y0, y1, y2, y3, y4, y5, y6⟩, _⟩ := seven_at (keep2 d3 a4)
    have HS := hideIt (same13 w5 _ _ X X ta tc ua uc va vc sa sc oa oc ba bc (x3.after (a4.trans a5)) (x4.after a5) (fun _ => rfl) (fun _ => rfl) (fun _ => rfl) (by have := HBX.out.1; omega) (by have := HBX.out.1; omega))
    rw [HVX.out, HVX.out, show eqM X X = true from decide_eq_true ⟨rfl, rfl, rfl, rfl, rfl, rfl, rfl⟩] at HS
    have aw5 := aw3.trans (a4.trans a5)
    have HQ := hideIt (show ∀ W, (Row W p1 n bs) → (Row W a n bs) → Calls Try.prog 12 #[.slice p1 n q1, .slice a n c] W fun e w' => e = .returned (.bool true) ∧ After W w' from fun W t1 t2 => eqBytes_same p1 a n q1 c bs W t1 t2 HR.out.2.2.1)
    have HP5 := hideIt (show Row w5 p1 n bs ∧ Row w5 a n bs from ⟨HO1.out.1.after (a13.trans (a4.trans a5)), HR.out.1.after aw5⟩)
    have HW5 := hideIt hw5
    have HZ := hideIt (And.intro aw5 (And.intro d4 (And.intro (own_after o3 (a4.trans a5)) (show w1.heap.size ≤ w2.heap.size from hsz12))))
    clear a4 a5 d3 d4 aw5 hw5 aw3 a13 x3 o3 x4
    obtain ⟨gx, hgx⟩ : ∃ gx, w2.heap.size = gx := ⟨_, rfl⟩
    rw [hgx] at HZ HTB hgl4 y0 y1 y2 y3 y4 y5 y6 ⊢
    clear hgx HX
    go_wp2_with (first
      | (go_at_call 13; rw [HW5.out]; refine HS.out.mono ?_; rintro e w6 ⟨rfl, h6⟩; have H6 := hideIt h6; clear h6; obtain ⟨_, ⟨g0, g1, g2, g3, g4, g5, g6⟩, _⟩ := seven_at (keep2 HZ.out.2.1 H6.out))
      | (go_at_call 12; refine (HQ.out _ (HP5.out.1.after H6.out) (HP5.out.2.after H6.out)).mono ?_; rintro e w7 ⟨rfl, h7⟩; have H7 := hideIt h7; clear h7; obtain ⟨_, ⟨k0, k1, k2, k3, k4, k5, k6⟩, _⟩ := seven_at (keep2 HZ.out.2.1 (H6.out.trans H7.out))))
    have HTA := hideIt (show ∀ y, ta = some y → w1.heap.size ≤ y.block ∧ y.block < gx from fun y hy => by
      subst hy
      exact HTB.out _ rfl)
    have HO7 := hideIt (own_after HZ.out.2.2.1 (H6.out.trans H7.out))
    go_loopw [8] (fun i wr => ∃ (j : Nat) (ys : List Int), j ≤ s ∧ i = .int .i64 j ∧ wr.ownsRow w1.heap.size 5 1 (.slice ta s tc) s (u8s ys) ∧ Bs ys ∧ But (BlkOf ta) w7 wr) (fun i _ => s - (intOf i).toNat)
    case atStart => exact ⟨0, X.sys, Nat.zero_le _, rfl, HO7.out, HBX.out.2, But.rfl⟩
    case round =>
      obtain ⟨j, ys, hj, rfl, ho, hb, hB⟩ := hrel
      have hgl : gx < w7.heap.size := (Array.getElem?_eq_some_iff.1 (keep2 HZ.out.2.1 (H6.out.trans H7.out))).1
      have hgb : ¬ BlkOf ta gx := fun t => by
        obtain ⟨x9, hx9, e9⟩ := t
        have h9 := HTA.out x9 hx9
        omega
      have dk := (hB.block gx hgl hgb).trans (keep2 HZ.out.2.1 (H6.out.trans H7.out))
      obtain ⟨_, ⟨m0, m1, m2, m3, m4, m5, m6⟩, _⟩ := seven_at dk
      by_cases hlt : j < s
      · obtain ⟨gg, x, rfl, c1, lx, f1, g1', g2', hnext⟩ := own_round ho hb hlt
        obtain ⟨y, ho2, hy, hb2⟩ := hnext _ (xor_byte x lx)
        have N1 := hideIt ho2
        have N2 := hideIt hy
        have N3 := hideIt (hB.then hb2 (S := BlkOf (some ⟨gg, 0, none⟩)) (fun i _ t => ⟨_, rfl, Eq.symm t⟩))
        have hki : (j : Int) < (s : Int) := by omega
        have hsl := HSL.out
        have hgne : ¬ gx = gg := fun e => hgb ⟨_, rfl, e.symm⟩
        have hgne' : ¬ gg = gx := fun e => hgb ⟨_, rfl, e⟩
        clear ho hb hB hnext ho2 hy hb2 dk hgb
        go_wp2_with fail
        go_region
        go_wp2_with fail
        go_roundw
        case rel => exact ⟨j + 1, y, by omega, by go_num, own_after N1.out (After.rfl.draws 1), N2.out, N3.out.trans (After.rfl.draws 1).but⟩
        case measure => simp [intOf]; omega
      · obtain rfl : j = s := by omega
        have hA6 : After w wr := (HZ.out.1.trans (H6.out.trans H7.out)).but.then hB (fun i hi t => by
          obtain ⟨x9, hx9, e9⟩ := t
          have h9 := HTA.out x9 hx9
          have h8 := HO1.out.2.2.size
          omega)
        have R6 : Row wr p1 n bs := (HP5.out.1.after (H6.out.trans H7.out)).but2 hB (fun x hx h0 t => by
          obtain ⟨y9, hy9, e9⟩ := t
          have h1 := HTA.out y9 hy9
          have h2 := HO1.out.2.1 x hx h0
          omega)
        have R7 : Row wr a n bs := HR.out.1.after hA6
        have HRR := hideIt (And.intro hA6 (And.intro R6 R7))
        clear ho hb hB hA6 R6 R7 dk
        go_wp2_with (first
          | (go_at_call 12; refine (HQ.out _ HRR.out.2.1 HRR.out.2.2).mono ?_; rintro e w8 ⟨rfl, h8⟩; have H8 := hideIt h8; clear h8)
          | (go_at_call 14; refine (awake_any _).mono ?_; rintro e w9 ⟨rfl, h9⟩; have H9 := hideIt h9; clear h9))
        go_ret
        exact ⟨rfl, HRR.out.1.trans (H8.out.trans H9.out)⟩
end Go.Proofs.Ytigiakhdaaoljaa
