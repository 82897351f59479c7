/-
  The document's reader: atom.
-/
import Derived.Test.YtlfcihanhfabmaaGreatDoorNrC
import Derived.Test.YtlfcihanhfabmaaGreatDoorNtF
namespace Go.Proofs.YtlfcihanhfabmaaGreatDoor
open Go.RowKit
set_option maxRecDepth 8000
open L1 (S)
/-- What stands in brackets. -/
theorem bracketD {w0 : World} {g : Nat} {s : W8} {d n : Nat} {p : List W8 → List Nd → Rs} (hf : ∀ ws ns, Fine (p ws ns) ws ns) (hd32 : d < 32) (D : DDoes 30 w0 g s (d + 1) p n) {w : World} {v : Value} {ts : List (Nat × W8)} {ns : List Nd} (hn : ts.length < n + 1) (x : RfX w0 w g s d v ts ns) (hb : hdT ts = [40]) :
    Calls Tryz.prog 106 #[Ptr g] w fun e w' => DTold w0 g s d v w (ns.length + ts.length) (atomP d p (wds ts) ns) e w' := by
  have e0 : atomP d p (wds ts) ns = bnd (p (wds ts).tail ns) (fun g => if hd g.ws = [41] then .ok ⟨g.i, g.ws.tail, g.ns⟩ else .error g.ws.length) := by
    unfold atomP brP
    rw [hd_wds, if_pos hb, if_pos hd32]
  have hl0 := hd_tail (ws := wds ts) (by rw [hd_wds, hb]; decide)
  rw [← wds_tail, wds_length, wds_length] at hl0
  rw [← wds_tail] at e0
  have HL := hideIt hl0
  have HX := hideIt x
  have HB := hideIt hb
  have HD := hideIt D
  have HNT : Hid (¬ hdT ts = wTrue) := hideIt (by rw [hb]; decide)
  have i32 : (d : Int) < 32 := by omega
  obtain ⟨D1, hD1⟩ : ∃ D1, D1 = d + 1 := ⟨_, rfl⟩
  rw [← hD1] at HD
  have cD : (d : Int) + 1 = (D1 : Int) := by omega
  have cE : (D1 : Int) - 1 = (d : Int) := by omega
  have cF : (D1 : Int) ≤ 33 := by omega
  have H33 : Hid (D1 ≤ 32) := hideIt (by omega)
  have H32 := hideIt hd32
  obtain ⟨R, hR⟩ : ∃ R, R = atomP d p (wds ts) ns := ⟨_, rfl⟩
  rw [← hR] at e0 ⊢
  have HNn := hideIt hn
  rcases hr : p (wds ts.tail) ns with k | h
  · have HW := hideIt (e0.trans (bnd_no hr))
    have HR := hideIt hr
    clear hD1 x hb D e0 hr hl0 hR hd32 hn hf
    go_enter Tryz.func106, Tryz.ntmps106
    go_wp2_with fail
    refine (take_no (t := wTrue) HX.out HNT.out).mono ?_
    rintro e w1 ⟨rfl, y1, b1⟩
    obtain ⟨i1, hb1⟩ := y1.blk
    obtain ⟨hg1, r0, r1, r2, r3, r4, -⟩ := five_at hb1
    have HY1 := hideIt (And.intro y1 b1)
    clear y1 b1 hb1
    go_wp2_with fail
    refine (take_yes (t := [40]) HY1.out.1 HB.out).mono ?_
    rintro e w2 ⟨rfl, y2, b2⟩
    obtain ⟨i2, hb2⟩ := y2.blk
    obtain ⟨hg2, s0, s1, s2, s3, s4, sz⟩ := five_at hb2
    have sz3 := sz 3
    obtain ⟨w3, hw3⟩ : ∃ W, W = w2.setCell ⟨g, 3, none⟩ (.int .i64 (D1 : Int)) := ⟨_, rfl⟩
    have y3 : RfX w0 w3 g s D1 v ts.tail ns := by rw [hw3]; exact y2.setD D1 H33.out
    have k3 : Goes g v w v w3 := by rw [hw3]; exact ((Goes.one HY1.out.2).trans (Goes.one b2)).trans (Goes.one (but_one _ _ _ _))
    have HY3 := hideIt (And.intro y3 k3)
    clear y2 b2 hb2 sz y3 k3
    go_wp2_with fail
    rw [← hw3]
    clear hw3
    refine (HD.out.no HR.out (by have := HL.out; have := HNn.out; omega) HY3.out.1).mono ?_
    rintro e w4 ⟨z, v4, rfl, y4, k4⟩
    have HY4 := hideIt (And.intro y4 (HY3.out.2.trans k4))
    obtain ⟨i4, hb4⟩ := y4.blk
    obtain ⟨hg4, p0, p1, p2, p3, p4, pz⟩ := five_at hb4
    have pz2 := pz 2
    have pz3 := pz 3
    clear y4 k4 hb4 pz
    go_wp2_with fail
    refine (take_wrong HY4.out.1 _).mono ?_
    rintro e w5 ⟨rfl, rfl⟩
    go_wp2_with fail
    go_ret
    rw [HW.out]
    exact ⟨z, v4, rfl, (HY4.out.1.wrong.setD d).more (by have := HL.out; omega), (HY4.out.2.trans (Goes.one (but_one _ _ _ _))).trans (Goes.one (but_one _ _ _ _))⟩
  · have HR := hideIt hr
    have f1 := hf (wds ts.tail) ns
    rw [hr] at f1
    have HF := hideIt f1
    have e1 := e0.trans (bnd_ok hr)
    by_cases hc : hd h.ws = [41]
    · rw [if_pos hc] at e1
      have HW := hideIt e1
      have HC := hideIt hc
      clear hD1 x hb D e0 e1 hr hl0 hR hd32 hn hf f1 hc
      go_enter Tryz.func106, Tryz.ntmps106
      go_wp2_with fail
      refine (take_no (t := wTrue) HX.out HNT.out).mono ?_
      rintro e w1 ⟨rfl, y1, b1⟩
      obtain ⟨i1, hb1⟩ := y1.blk
      obtain ⟨hg1, r0, r1, r2, r3, r4, -⟩ := five_at hb1
      have HY1 := hideIt (And.intro y1 b1)
      clear y1 b1 hb1
      go_wp2_with fail
      refine (take_yes (t := [40]) HY1.out.1 HB.out).mono ?_
      rintro e w2 ⟨rfl, y2, b2⟩
      obtain ⟨i2, hb2⟩ := y2.blk
      obtain ⟨hg2, s0, s1, s2, s3, s4, sz⟩ := five_at hb2
      have sz3 := sz 3
      obtain ⟨w3, hw3⟩ : ∃ W, W = w2.setCell ⟨g, 3, none⟩ (.int .i64 (D1 : Int)) := ⟨_, rfl⟩
      have y3 : RfX w0 w3 g s D1 v ts.tail ns := by rw [hw3]; exact y2.setD D1 H33.out
      have k3 : Goes g v w v w3 := by rw [hw3]; exact ((Goes.one HY1.out.2).trans (Goes.one b2)).trans (Goes.one (but_one _ _ _ _))
      have HY3 := hideIt (And.intro y3 k3)
      clear y2 b2 hb2 sz y3 k3
      go_wp2_with fail
      rw [← hw3]
      clear hw3
      refine (HD.out.yes HR.out (by have := HL.out; have := HNn.out; omega) HY3.out.1).mono ?_
      rintro e w4 ⟨v4, ts4, e4, rfl, y4, k4⟩
      have HY4 := hideIt (And.intro e4 (And.intro y4 (HY3.out.2.trans k4)))
      clear e4 y4 k4
      go_wp2_with fail
      refine (take_yes (t := [41]) HY4.out.2.1 (by rw [← hd_wds, HY4.out.1]; exact HC.out)).mono ?_
      rintro e w5 ⟨rfl, y5, b5⟩
      obtain ⟨i5, hb5⟩ := y5.blk
      obtain ⟨hg5, p0, p1, p2, p3, p4, pz⟩ := five_at hb5
      have pz3 := pz 3
      have HY5 := hideIt (And.intro y5 (HY4.out.2.2.trans (Goes.one b5)))
      clear y5 b5 hb5 pz
      go_wp2_with fail
      go_ret
      rw [HW.out]
      exact ⟨v4, ts4.tail, by rw [wds_tail, HY4.out.1], rfl, HY5.out.1.setD d (by have := H32.out; omega), HY5.out.2.trans (Goes.one (but_one _ _ _ _))⟩
    · rw [if_neg hc] at e1
      have HW := hideIt e1
      have HC := hideIt hc
      clear hD1 x hb D e0 e1 hr hl0 hR hd32 hn hf f1 hc
      go_enter Tryz.func106, Tryz.ntmps106
      go_wp2_with fail
      refine (take_no (t := wTrue) HX.out HNT.out).mono ?_
      rintro e w1 ⟨rfl, y1, b1⟩
      obtain ⟨i1, hb1⟩ := y1.blk
      obtain ⟨hg1, r0, r1, r2, r3, r4, -⟩ := five_at hb1
      have HY1 := hideIt (And.intro y1 b1)
      clear y1 b1 hb1
      go_wp2_with fail
      refine (take_yes (t := [40]) HY1.out.1 HB.out).mono ?_
      rintro e w2 ⟨rfl, y2, b2⟩
      obtain ⟨i2, hb2⟩ := y2.blk
      obtain ⟨hg2, s0, s1, s2, s3, s4, sz⟩ := five_at hb2
      have sz3 := sz 3
      obtain ⟨w3, hw3⟩ : ∃ W, W = w2.setCell ⟨g, 3, none⟩ (.int .i64 (D1 : Int)) := ⟨_, rfl⟩
      have y3 : RfX w0 w3 g s D1 v ts.tail ns := by rw [hw3]; exact y2.setD D1 H33.out
      have k3 : Goes g v w v w3 := by rw [hw3]; exact ((Goes.one HY1.out.2).trans (Goes.one b2)).trans (Goes.one (but_one _ _ _ _))
      have HY3 := hideIt (And.intro y3 k3)
      clear y2 b2 hb2 sz y3 k3
      go_wp2_with fail
      rw [← hw3]
      clear hw3
      refine (HD.out.yes HR.out (by have := HL.out; have := HNn.out; omega) HY3.out.1).mono ?_
      rintro e w4 ⟨v4, ts4, e4, rfl, y4, k4⟩
      have HY4 := hideIt (And.intro e4 (And.intro y4 (HY3.out.2.trans k4)))
      clear e4 y4 k4
      go_wp2_with fail
      refine (take_no (t := [41]) HY4.out.2.1 (by rw [← hd_wds, HY4.out.1]; exact HC.out)).mono ?_
      rintro e w5 ⟨rfl, y5, b5⟩
      obtain ⟨i5, hb5⟩ := y5.blk
      obtain ⟨hg5, p0, p1, p2, p3, p4, pz⟩ := five_at hb5
      have pz2 := pz 2
      have pz3 := pz 3
      have HY5 := hideIt (And.intro y5 (HY4.out.2.2.trans (Goes.one b5)))
      clear y5 b5 hb5 pz
      go_wp2_with fail
      go_ret
      rw [HW.out]
      refine ⟨_, v4, rfl, (HY5.out.1.wrong (m := ns.length + ts.length) (by rw [← HY4.out.1, wds_length]) ?_).setD d, (HY5.out.2.trans (Goes.one (but_one _ _ _ _))).trans (Goes.one (but_one _ _ _ _))⟩
      have h1 := HF.out.2.2.2
      have h2 := HL.out
      rw [wds_length] at h1
      omega
theorem trueD {w0 : World} {g : Nat} {s : W8} {d : Nat} {p : List W8 → List Nd → Rs} {w : World} {v : Value} {ts : List (Nat × W8)} {ns : List Nd} (x : RfX w0 w g s d v ts ns) (hb : hdT ts = wTrue) :
    Calls Tryz.prog 106 #[Ptr g] w fun e w' => DTold w0 g s d v w (ns.length + ts.length) (atomP d p (wds ts) ns) e w' := by
  have e0 : atomP d p (wds ts) ns = putN ns ⟨0, 0, 0, 0⟩ (wds ts).tail := by
    unfold atomP
    rw [hd_wds, if_neg (by rw [hb]; decide), if_pos hb]
  have hl0 := hd_tail (ws := wds ts) (by rw [hd_wds, hb]; decide)
  rw [← wds_tail, wds_length, wds_length] at hl0
  have HW := hideIt e0
  have HX := hideIt x
  have HB := hideIt hb
  have HL := hideIt hl0
  clear x hb e0 hl0
  go_enter Tryz.func106, Tryz.ntmps106
  go_wp2_with fail
  refine (take_yes (t := wTrue) HX.out HB.out).mono ?_
  rintro e w1 ⟨rfl, y1, b1⟩
  have HY1 := hideIt (And.intro y1 b1)
  have HPx := hideIt (putX y1 ⟨0, 0, 0, 0⟩ (by have := HX.out.few; have := HL.out; omega))
  unfold Nd.val at HPx
  clear y1 b1
  go_wp2_with fail
  refine HPx.out.mono ?_
  rintro e w2 ⟨v2, rfl, y2, k2⟩
  have HY2 := hideIt (And.intro y2 k2)
  clear y2 k2
  go_wp2
  go_ret
  rw [HW.out]
  exact ⟨v2, ts.tail, wds_tail ts, rfl, HY2.out.1, (Goes.one HY1.out.2).trans HY2.out.2⟩
set_option maxHeartbeats 1000000 in
theorem chanD {w0 : World} {g : Nat} {s : W8} {d : Nat} {p : List W8 → List Nd → Rs} (h32 : d < 32) {w : World} {v : Value} {ts : List (Nat × W8)} {ns : List Nd} (hbr : ¬ hdT ts = [40]) (x : RfX w0 w g s d v ts ns) (hT : ¬ hdT ts = wTrue) (hR : Hid (atomP d p (wds ts) ns = match chanOf (hdT ts) with | some c => chP c (wds ts).tail ns | none => .error ts.length)) :
    Calls Tryz.prog 106 #[Ptr g] w fun e w' => DTold w0 g s d v w (ns.length + ts.length) (atomP d p (wds ts) ns) e w' := by
  have HX := hideIt x
  have HT := hideIt hT
  have HBr := hideIt hbr
  have i32 : (d : Int) < 32 := by omega
  clear hbr
  obtain ⟨N, hN, hno, hyes⟩ : ∃ N, N ≤ 8 ∧ (∀ j, j < N → ¬ hdT ts = chanW j) ∧ (N < 8 → hdT ts = chanW N ∧ chanOf (hdT ts) = some N) ∧ (N = 8 → chanOf (hdT ts) = none) := by
    rcases hc : chanOf (hdT ts) with _ | c
    · exact ⟨8, Nat.le_refl _, fun j hj e => by have := find_none hc j hj; simp [e] at this, fun h => absurd h (by omega), fun _ => rfl⟩
    · obtain ⟨h1, h2, h3⟩ := find_some hc
      exact ⟨c, by omega, fun j hj e => by have := h3 j hj; simp [e] at this, fun _ => ⟨by simpa using (of_decide_eq_true h2).symm, rfl⟩, fun h => absurd h (by omega)⟩
  have HN := hideIt (And.intro hN (And.intro hno hyes))
  clear x hN hno hyes hT
  go_enter Tryz.func106, Tryz.ntmps106
  go_wp2_with fail
  refine (take_no (t := wTrue) HX.out HT.out).mono ?_
  rintro e w1 ⟨rfl, y1, b1⟩
  obtain ⟨i1, hb1⟩ := y1.blk
  obtain ⟨hg1, r0, r1, r2, r3, r4, -⟩ := five_at hb1
  have HY1 := hideIt (And.intro y1 b1)
  clear y1 b1 hb1
  go_wp2_with fail
  refine (take_no (t := [40]) HY1.out.1 HBr.out).mono ?_
  rintro e w2 ⟨rfl, y2, b2⟩
  have HY2 := hideIt (And.intro y2 (HY1.out.2.trans b2))
  clear y2 b2
  go_wp2_with fail
  go_loopw [4] (fun i wr => ∃ j : Nat, j ≤ N ∧ i = .int .i64 j ∧ RfX w0 wr g s d v ts ns ∧ But (One g) w wr) (fun i _ => 8 - (intOf i).toNat)
  case atStart => exact ⟨0, Nat.zero_le _, rfl, HY2.out.1, HY2.out.2⟩
  case round =>
    obtain ⟨j, hj, rfl, x1, bw⟩ := hrel
    have HX1 := hideIt (And.intro x1 bw)
    by_cases hj8 : j < 8
    · have i1 : (j : Int) < 8 := by omega
      have HC := hideIt (fun W => digits_any j (by omega) W)
      have e1 : (⟨#[99]⟩ : ByteArray) ++ S (dig j) = S (chanW j) := L1.S_cat [99] (dig j)
      have z1 : (S (dig j)).size ≤ 2 := by have := dig_len j; exact this
      by_cases hjN : j < N
      · have HJ := hideIt hjN
        have HNo := hideIt (HN.out.2.1 j hjN)
        clear x1 bw hj hjN hj8
        go_wp2_with fail
        refine (HC.out _).mono ?_
        rintro e w3 ⟨rfl, a3⟩
        have HA3 := hideIt a3
        clear a3
        go_wp2_with fail
        refine (take_no (HX1.out.1.after HA3.out) HNo.out).mono ?_
        rintro e w4 ⟨rfl, y, b⟩
        have HY := hideIt (And.intro y ((HX1.out.2.then HA3.out (fun _ _ t => t.elim)).trans b))
        clear y b
        go_wp2_with fail
        go_roundw
        case rel => exact ⟨j + 1, HJ.out, by go_num, HY.out.1, HY.out.2⟩
        case measure => simp [intOf]; omega
      · have hjN' : j = N := by omega
        obtain ⟨h1, h2⟩ := HN.out.2.2.1 (by omega)
        rw [← hjN'] at h1 h2
        have H1 := hideIt h1
        rw [h2] at hR
        have hR2 : Hid (atomP d p (wds ts) ns = chP j (wds ts.tail) ns) := hideIt (by rw [wds_tail]; exact hR.out)
        have hl0 := hd_tail (ws := wds ts) (by rw [hd_wds, h1]; exact List.cons_ne_nil _ _)
        rw [← wds_tail, wds_length, wds_length] at hl0
        have HL := hideIt hl0
        have HIs := hideIt (chP_is j (wds ts.tail) ns)
        have HYes := hideIt (atomN_yes (hdT ts.tail))
        clear x1 bw hj hjN hj8 hjN' h1 h2 hl0 hR
        go_wp2_with fail
        refine (HC.out _).mono ?_
        rintro e w3 ⟨rfl, a3⟩
        have HA3 := hideIt a3
        clear a3
        go_wp2_with fail
        refine (take_yes (HX1.out.1.after HA3.out) H1.out).mono ?_
        rintro e w4 ⟨rfl, y, b⟩
        have HZ0 := hideIt (And.intro y ((HX1.out.2.then HA3.out (fun _ _ t => t.elim)).trans b))
        clear y b
        rcases HYes.out with ⟨-, hm⟩ | ⟨-, hm⟩ | ⟨-, hm⟩ | ⟨-, hm⟩ | ⟨-, hm⟩ | ⟨-, hm⟩
        · have HM := hideIt hm
          clear hm
          go_wp2_with fail
          refine (take_yes (t := [62]) HZ0.out.1 HM.out).mono ?_
          rintro e u1 ⟨rfl, y9, b9⟩
          have HU := hideIt (And.intro y9 (HZ0.out.2.trans b9))
          have hl9 := hd_tail (ws := wds ts.tail) (by rw [hd_wds, HM.out]; decide)
          rw [← wds_tail, wds_length, wds_length] at hl9
          have HL9 := hideIt hl9
          have HCmp := hideIt (compared_doc y9 1 j (by have := HX.out.few; have := HL.out; omega))
          clear y9 b9 hl9
          go_wp2_with fail
          refine HCmp.out.mono ?_
          intro e u2 ht
          have hq2 := (HIs.out.1 (by rw [hd_wds, HM.out]; decide))
          rw [← wds_tail] at hq2
          rcases hq : cmpP 1 j (wds ts.tail.tail) ns with k9 | h9
          · rw [hq] at ht
            obtain ⟨z9, v9, rfl, y9, k9'⟩ := ht
            have HY9 := hideIt (And.intro y9 ((Goes.one HU.out.2).trans k9'))
            have HQ := hideIt (hR2.out.trans (hq2.trans hq))
            clear y9 k9' hq hq2
            go_wp2_with fail
            go_ret
            rw [HQ.out]
            exact ⟨z9, v9, rfl, HY9.out.1.more (by have := HL.out; have := HL9.out; omega), HY9.out.2⟩
          · rw [hq] at ht
            obtain ⟨v9, ts9, e9, rfl, y9, k9'⟩ := ht
            have HY9 := hideIt (And.intro e9 (And.intro y9 ((Goes.one HU.out.2).trans k9')))
            have HQ := hideIt (hR2.out.trans (hq2.trans hq))
            clear y9 k9' e9 hq hq2
            go_wp2_with fail
            go_ret
            rw [HQ.out]
            exact ⟨v9, ts9, HY9.out.1, rfl, HY9.out.2.1, HY9.out.2.2⟩
        · have HM := hideIt hm
          clear hm
          go_wp2_with fail
          refine (take_no (t := [62]) HZ0.out.1 (by rw [HM.out]; decide)).mono ?_
          rintro e v0 ⟨rfl, y9, b9⟩
          have HZ1 := hideIt (And.intro y9 (HZ0.out.2.trans b9))
          clear y9 b9
          go_wp2_with fail
          refine (take_yes (t := [60]) HZ1.out.1 HM.out).mono ?_
          rintro e u1 ⟨rfl, y9, b9⟩
          have HU := hideIt (And.intro y9 (HZ1.out.2.trans b9))
          have hl9 := hd_tail (ws := wds ts.tail) (by rw [hd_wds, HM.out]; decide)
          rw [← wds_tail, wds_length, wds_length] at hl9
          have HL9 := hideIt hl9
          have HCmp := hideIt (compared_doc y9 2 j (by have := HX.out.few; have := HL.out; omega))
          clear y9 b9 hl9
          go_wp2_with fail
          refine HCmp.out.mono ?_
          intro e u2 ht
          have hq2 := (HIs.out.2.1 (by rw [hd_wds, HM.out]; decide))
          rw [← wds_tail] at hq2
          rcases hq : cmpP 2 j (wds ts.tail.tail) ns with k9 | h9
          · rw [hq] at ht
            obtain ⟨z9, v9, rfl, y9, k9'⟩ := ht
            have HY9 := hideIt (And.intro y9 ((Goes.one HU.out.2).trans k9'))
            have HQ := hideIt (hR2.out.trans (hq2.trans hq))
            clear y9 k9' hq hq2
            go_wp2_with fail
            go_ret
            rw [HQ.out]
            exact ⟨z9, v9, rfl, HY9.out.1.more (by have := HL.out; have := HL9.out; omega), HY9.out.2⟩
          · rw [hq] at ht
            obtain ⟨v9, ts9, e9, rfl, y9, k9'⟩ := ht
            have HY9 := hideIt (And.intro e9 (And.intro y9 ((Goes.one HU.out.2).trans k9')))
            have HQ := hideIt (hR2.out.trans (hq2.trans hq))
            clear y9 k9' e9 hq hq2
            go_wp2_with fail
            go_ret
            rw [HQ.out]
            exact ⟨v9, ts9, HY9.out.1, rfl, HY9.out.2.1, HY9.out.2.2⟩
        · have HM := hideIt hm
          clear hm
          go_wp2_with fail
          refine (take_no (t := [62]) HZ0.out.1 (by rw [HM.out]; decide)).mono ?_
          rintro e v0 ⟨rfl, y9, b9⟩
          have HZ1 := hideIt (And.intro y9 (HZ0.out.2.trans b9))
          clear y9 b9
          go_wp2_with fail
          refine (take_no (t := [60]) HZ1.out.1 (by rw [HM.out]; decide)).mono ?_
          rintro e v1 ⟨rfl, y9, b9⟩
          have HZ2 := hideIt (And.intro y9 (HZ1.out.2.trans b9))
          clear y9 b9
          go_wp2_with fail
          refine (take_yes (t := wHigh) HZ2.out.1 HM.out).mono ?_
          rintro e u1 ⟨rfl, y9, b9⟩
          have HU := hideIt (And.intro y9 (HZ2.out.2.trans b9))
          have hl9 := hd_tail (ws := wds ts.tail) (by rw [hd_wds, HM.out]; decide)
          rw [← wds_tail, wds_length, wds_length] at hl9
          have HL9 := hideIt hl9
          have hq2 := HIs.out.2.2.1 2 (by omega) (by omega) (by rw [hd_wds, HM.out]; decide)
          have HQ := hideIt (hR2.out.trans hq2)
          have HPx := hideIt (putX y9 ⟨3, (j : Int), 0, 0⟩ (by have := HX.out.few; have := HL.out; have := HL9.out; omega))
          unfold Nd.val at HPx
          clear y9 b9 hl9 hq2
          go_wp2_with fail
          refine HPx.out.mono ?_
          rintro e u2 ⟨v9, rfl, y9, k9⟩
          have HY9 := hideIt (And.intro y9 ((Goes.one HU.out.2).trans k9))
          clear y9 k9
          go_wp2
          go_ret
          rw [HQ.out]
          exact ⟨v9, ts.tail.tail, wds_tail _, rfl, HY9.out.1, HY9.out.2⟩
        · have HM := hideIt hm
          clear hm
          go_wp2_with fail
          refine (take_no (t := [62]) HZ0.out.1 (by rw [HM.out]; decide)).mono ?_
          rintro e v0 ⟨rfl, y9, b9⟩
          have HZ1 := hideIt (And.intro y9 (HZ0.out.2.trans b9))
          clear y9 b9
          go_wp2_with fail
          refine (take_no (t := [60]) HZ1.out.1 (by rw [HM.out]; decide)).mono ?_
          rintro e v1 ⟨rfl, y9, b9⟩
          have HZ2 := hideIt (And.intro y9 (HZ1.out.2.trans b9))
          clear y9 b9
          go_wp2_with fail
          refine (take_no (t := wHigh) HZ2.out.1 (by rw [HM.out]; decide)).mono ?_
          rintro e v2 ⟨rfl, y9, b9⟩
          have HZ3 := hideIt (And.intro y9 (HZ2.out.2.trans b9))
          clear y9 b9
          go_wp2_with fail
          refine (take_yes (t := wLow) HZ3.out.1 HM.out).mono ?_
          rintro e u1 ⟨rfl, y9, b9⟩
          have HU := hideIt (And.intro y9 (HZ3.out.2.trans b9))
          have hl9 := hd_tail (ws := wds ts.tail) (by rw [hd_wds, HM.out]; decide)
          rw [← wds_tail, wds_length, wds_length] at hl9
          have HL9 := hideIt hl9
          have hq2 := HIs.out.2.2.1 3 (by omega) (by omega) (by rw [hd_wds, HM.out]; decide)
          have HQ := hideIt (hR2.out.trans hq2)
          have HPx := hideIt (putX y9 ⟨4, (j : Int), 0, 0⟩ (by have := HX.out.few; have := HL.out; have := HL9.out; omega))
          unfold Nd.val at HPx
          clear y9 b9 hl9 hq2
          go_wp2_with fail
          refine HPx.out.mono ?_
          rintro e u2 ⟨v9, rfl, y9, k9⟩
          have HY9 := hideIt (And.intro y9 ((Goes.one HU.out.2).trans k9))
          clear y9 k9
          go_wp2
          go_ret
          rw [HQ.out]
          exact ⟨v9, ts.tail.tail, wds_tail _, rfl, HY9.out.1, HY9.out.2⟩
        · have HM := hideIt hm
          clear hm
          go_wp2_with fail
          refine (take_no (t := [62]) HZ0.out.1 (by rw [HM.out]; decide)).mono ?_
          rintro e v0 ⟨rfl, y9, b9⟩
          have HZ1 := hideIt (And.intro y9 (HZ0.out.2.trans b9))
          clear y9 b9
          go_wp2_with fail
          refine (take_no (t := [60]) HZ1.out.1 (by rw [HM.out]; decide)).mono ?_
          rintro e v1 ⟨rfl, y9, b9⟩
          have HZ2 := hideIt (And.intro y9 (HZ1.out.2.trans b9))
          clear y9 b9
          go_wp2_with fail
          refine (take_no (t := wHigh) HZ2.out.1 (by rw [HM.out]; decide)).mono ?_
          rintro e v2 ⟨rfl, y9, b9⟩
          have HZ3 := hideIt (And.intro y9 (HZ2.out.2.trans b9))
          clear y9 b9
          go_wp2_with fail
          refine (take_no (t := wLow) HZ3.out.1 (by rw [HM.out]; decide)).mono ?_
          rintro e v3 ⟨rfl, y9, b9⟩
          have HZ4 := hideIt (And.intro y9 (HZ3.out.2.trans b9))
          clear y9 b9
          go_wp2_with fail
          refine (take_yes (t := wKnown) HZ4.out.1 HM.out).mono ?_
          rintro e u1 ⟨rfl, y9, b9⟩
          have HU := hideIt (And.intro y9 (HZ4.out.2.trans b9))
          have hl9 := hd_tail (ws := wds ts.tail) (by rw [hd_wds, HM.out]; decide)
          rw [← wds_tail, wds_length, wds_length] at hl9
          have HL9 := hideIt hl9
          have hq2 := HIs.out.2.2.1 4 (by omega) (by omega) (by rw [hd_wds, HM.out]; decide)
          have HQ := hideIt (hR2.out.trans hq2)
          have HPx := hideIt (putX y9 ⟨5, (j : Int), 0, 0⟩ (by have := HX.out.few; have := HL.out; have := HL9.out; omega))
          unfold Nd.val at HPx
          clear y9 b9 hl9 hq2
          go_wp2_with fail
          refine HPx.out.mono ?_
          rintro e u2 ⟨v9, rfl, y9, k9⟩
          have HY9 := hideIt (And.intro y9 ((Goes.one HU.out.2).trans k9))
          clear y9 k9
          go_wp2
          go_ret
          rw [HQ.out]
          exact ⟨v9, ts.tail.tail, wds_tail _, rfl, HY9.out.1, HY9.out.2⟩
        · have HM := hideIt hm
          clear hm
          go_wp2_with fail
          refine (take_no (t := [62]) HZ0.out.1 HM.out.1).mono ?_
          rintro e v0 ⟨rfl, y9, b9⟩
          have HZ1 := hideIt (And.intro y9 (HZ0.out.2.trans b9))
          clear y9 b9
          go_wp2_with fail
          refine (take_no (t := [60]) HZ1.out.1 HM.out.2.1).mono ?_
          rintro e v1 ⟨rfl, y9, b9⟩
          have HZ2 := hideIt (And.intro y9 (HZ1.out.2.trans b9))
          clear y9 b9
          go_wp2_with fail
          refine (take_no (t := wHigh) HZ2.out.1 HM.out.2.2.1).mono ?_
          rintro e v2 ⟨rfl, y9, b9⟩
          have HZ3 := hideIt (And.intro y9 (HZ2.out.2.trans b9))
          clear y9 b9
          go_wp2_with fail
          refine (take_no (t := wLow) HZ3.out.1 HM.out.2.2.2.1).mono ?_
          rintro e v3 ⟨rfl, y9, b9⟩
          have HZ4 := hideIt (And.intro y9 (HZ3.out.2.trans b9))
          clear y9 b9
          go_wp2_with fail
          refine (take_no (t := wKnown) HZ4.out.1 HM.out.2.2.2.2).mono ?_
          rintro e v4 ⟨rfl, y9, b9⟩
          have HZ5 := hideIt (And.intro y9 (HZ4.out.2.trans b9))
          clear y9 b9
          have hq2 := HIs.out.2.2.2 (by rw [hd_wds]; unfold atomN; rw [if_neg HM.out.1, if_neg HM.out.2.1, if_neg HM.out.2.2.1, if_neg HM.out.2.2.2.1, if_neg HM.out.2.2.2.2])
          have HQ := hideIt (hR2.out.trans hq2)
          obtain ⟨i5, hb5⟩ := HZ5.out.1.blk
          obtain ⟨hg5, p0, p1, p2, p3, p4, pz⟩ := five_at hb5
          have pz2 := pz 2
          clear hb5 pz hq2
          go_wp2
          go_ret
          rw [HQ.out, wds_length]
          exact ⟨0, v, rfl, HZ5.out.1.wrong rfl (by omega), (Goes.one HZ5.out.2).trans (Goes.one (but_one _ _ _ _))⟩
    · have hj' : j = 8 := by have := HN.out.1; omega
      have h2 := HN.out.2.2.2 (by have := HN.out.1; omega)
      rw [h2] at hR
      subst hj'
      obtain ⟨i, hb⟩ := x1.blk
      obtain ⟨hg, c0, c1, c2, c3, c4, hz⟩ := five_at hb
      have hz2 := hz 2
      clear x1 bw hj hj8 hb hz h2
      go_wp2
      go_ret
      rw [hR.out]
      exact ⟨0, v, rfl, HX1.out.1.wrong rfl (by omega), (Goes.one HX1.out.2).trans (Goes.one (but_one _ _ _ _))⟩
set_option maxHeartbeats 1000000 in
theorem chanD2 {w0 : World} {g : Nat} {s : W8} {d : Nat} {p : List W8 → List Nd → Rs} (h32 : ¬ d < 32) {w : World} {v : Value} {ts : List (Nat × W8)} {ns : List Nd} (x : RfX w0 w g s d v ts ns) (hT : ¬ hdT ts = wTrue) (hR : Hid (atomP d p (wds ts) ns = match chanOf (hdT ts) with | some c => chP c (wds ts).tail ns | none => .error ts.length)) :
    Calls Tryz.prog 106 #[Ptr g] w fun e w' => DTold w0 g s d v w (ns.length + ts.length) (atomP d p (wds ts) ns) e w' := by
  have HX := hideIt x
  have HT := hideIt hT
  have i32 : ¬ (d : Int) < 32 := by omega
  obtain ⟨N, hN, hno, hyes⟩ : ∃ N, N ≤ 8 ∧ (∀ j, j < N → ¬ hdT ts = chanW j) ∧ (N < 8 → hdT ts = chanW N ∧ chanOf (hdT ts) = some N) ∧ (N = 8 → chanOf (hdT ts) = none) := by
    rcases hc : chanOf (hdT ts) with _ | c
    · exact ⟨8, Nat.le_refl _, fun j hj e => by have := find_none hc j hj; simp [e] at this, fun h => absurd h (by omega), fun _ => rfl⟩
    · obtain ⟨h1, h2, h3⟩ := find_some hc
      exact ⟨c, by omega, fun j hj e => by have := h3 j hj; simp [e] at this, fun _ => ⟨by simpa using (of_decide_eq_true h2).symm, rfl⟩, fun h => absurd h (by omega)⟩
  have HN := hideIt (And.intro hN (And.intro hno hyes))
  clear x hN hno hyes hT
  go_enter Tryz.func106, Tryz.ntmps106
  go_wp2_with fail
  refine (take_no (t := wTrue) HX.out HT.out).mono ?_
  rintro e w1 ⟨rfl, y1, b1⟩
  obtain ⟨i1, hb1⟩ := y1.blk
  obtain ⟨hg1, r0, r1, r2, r3, r4, -⟩ := five_at hb1
  have HY1 := hideIt (And.intro y1 b1)
  clear y1 b1 hb1
  have HY2 := HY1
  go_wp2_with fail
  go_loopw [4] (fun i wr => ∃ j : Nat, j ≤ N ∧ i = .int .i64 j ∧ RfX w0 wr g s d v ts ns ∧ But (One g) w wr) (fun i _ => 8 - (intOf i).toNat)
  case atStart => exact ⟨0, Nat.zero_le _, rfl, HY2.out.1, HY2.out.2⟩
  case round =>
    obtain ⟨j, hj, rfl, x1, bw⟩ := hrel
    have HX1 := hideIt (And.intro x1 bw)
    by_cases hj8 : j < 8
    · have i1 : (j : Int) < 8 := by omega
      have HC := hideIt (fun W => digits_any j (by omega) W)
      have e1 : (⟨#[99]⟩ : ByteArray) ++ S (dig j) = S (chanW j) := L1.S_cat [99] (dig j)
      have z1 : (S (dig j)).size ≤ 2 := by have := dig_len j; exact this
      by_cases hjN : j < N
      · have HJ := hideIt hjN
        have HNo := hideIt (HN.out.2.1 j hjN)
        clear x1 bw hj hjN hj8
        go_wp2_with fail
        refine (HC.out _).mono ?_
        rintro e w3 ⟨rfl, a3⟩
        have HA3 := hideIt a3
        clear a3
        go_wp2_with fail
        refine (take_no (HX1.out.1.after HA3.out) HNo.out).mono ?_
        rintro e w4 ⟨rfl, y, b⟩
        have HY := hideIt (And.intro y ((HX1.out.2.then HA3.out (fun _ _ t => t.elim)).trans b))
        clear y b
        go_wp2_with fail
        go_roundw
        case rel => exact ⟨j + 1, HJ.out, by go_num, HY.out.1, HY.out.2⟩
        case measure => simp [intOf]; omega
      · have hjN' : j = N := by omega
        obtain ⟨h1, h2⟩ := HN.out.2.2.1 (by omega)
        rw [← hjN'] at h1 h2
        have H1 := hideIt h1
        rw [h2] at hR
        have hR2 : Hid (atomP d p (wds ts) ns = chP j (wds ts.tail) ns) := hideIt (by rw [wds_tail]; exact hR.out)
        have hl0 := hd_tail (ws := wds ts) (by rw [hd_wds, h1]; exact List.cons_ne_nil _ _)
        rw [← wds_tail, wds_length, wds_length] at hl0
        have HL := hideIt hl0
        have HIs := hideIt (chP_is j (wds ts.tail) ns)
        have HYes := hideIt (atomN_yes (hdT ts.tail))
        clear x1 bw hj hjN hj8 hjN' h1 h2 hl0 hR
        go_wp2_with fail
        refine (HC.out _).mono ?_
        rintro e w3 ⟨rfl, a3⟩
        have HA3 := hideIt a3
        clear a3
        go_wp2_with fail
        refine (take_yes (HX1.out.1.after HA3.out) H1.out).mono ?_
        rintro e w4 ⟨rfl, y, b⟩
        have HZ0 := hideIt (And.intro y ((HX1.out.2.then HA3.out (fun _ _ t => t.elim)).trans b))
        clear y b
        rcases HYes.out with ⟨-, hm⟩ | ⟨-, hm⟩ | ⟨-, hm⟩ | ⟨-, hm⟩ | ⟨-, hm⟩ | ⟨-, hm⟩
        · have HM := hideIt hm
          clear hm
          go_wp2_with fail
          refine (take_yes (t := [62]) HZ0.out.1 HM.out).mono ?_
          rintro e u1 ⟨rfl, y9, b9⟩
          have HU := hideIt (And.intro y9 (HZ0.out.2.trans b9))
          have hl9 := hd_tail (ws := wds ts.tail) (by rw [hd_wds, HM.out]; decide)
          rw [← wds_tail, wds_length, wds_length] at hl9
          have HL9 := hideIt hl9
          have HCmp := hideIt (compared_doc y9 1 j (by have := HX.out.few; have := HL.out; omega))
          clear y9 b9 hl9
          go_wp2_with fail
          refine HCmp.out.mono ?_
          intro e u2 ht
          have hq2 := (HIs.out.1 (by rw [hd_wds, HM.out]; decide))
          rw [← wds_tail] at hq2
          rcases hq : cmpP 1 j (wds ts.tail.tail) ns with k9 | h9
          · rw [hq] at ht
            obtain ⟨z9, v9, rfl, y9, k9'⟩ := ht
            have HY9 := hideIt (And.intro y9 ((Goes.one HU.out.2).trans k9'))
            have HQ := hideIt (hR2.out.trans (hq2.trans hq))
            clear y9 k9' hq hq2
            go_wp2_with fail
            go_ret
            rw [HQ.out]
            exact ⟨z9, v9, rfl, HY9.out.1.more (by have := HL.out; have := HL9.out; omega), HY9.out.2⟩
          · rw [hq] at ht
            obtain ⟨v9, ts9, e9, rfl, y9, k9'⟩ := ht
            have HY9 := hideIt (And.intro e9 (And.intro y9 ((Goes.one HU.out.2).trans k9')))
            have HQ := hideIt (hR2.out.trans (hq2.trans hq))
            clear y9 k9' e9 hq hq2
            go_wp2_with fail
            go_ret
            rw [HQ.out]
            exact ⟨v9, ts9, HY9.out.1, rfl, HY9.out.2.1, HY9.out.2.2⟩
        · have HM := hideIt hm
          clear hm
          go_wp2_with fail
          refine (take_no (t := [62]) HZ0.out.1 (by rw [HM.out]; decide)).mono ?_
          rintro e v0 ⟨rfl, y9, b9⟩
          have HZ1 := hideIt (And.intro y9 (HZ0.out.2.trans b9))
          clear y9 b9
          go_wp2_with fail
          refine (take_yes (t := [60]) HZ1.out.1 HM.out).mono ?_
          rintro e u1 ⟨rfl, y9, b9⟩
          have HU := hideIt (And.intro y9 (HZ1.out.2.trans b9))
          have hl9 := hd_tail (ws := wds ts.tail) (by rw [hd_wds, HM.out]; decide)
          rw [← wds_tail, wds_length, wds_length] at hl9
          have HL9 := hideIt hl9
          have HCmp := hideIt (compared_doc y9 2 j (by have := HX.out.few; have := HL.out; omega))
          clear y9 b9 hl9
          go_wp2_with fail
          refine HCmp.out.mono ?_
          intro e u2 ht
          have hq2 := (HIs.out.2.1 (by rw [hd_wds, HM.out]; decide))
          rw [← wds_tail] at hq2
          rcases hq : cmpP 2 j (wds ts.tail.tail) ns with k9 | h9
          · rw [hq] at ht
            obtain ⟨z9, v9, rfl, y9, k9'⟩ := ht
            have HY9 := hideIt (And.intro y9 ((Goes.one HU.out.2).trans k9'))
            have HQ := hideIt (hR2.out.trans (hq2.trans hq))
            clear y9 k9' hq hq2
            go_wp2_with fail
            go_ret
            rw [HQ.out]
            exact ⟨z9, v9, rfl, HY9.out.1.more (by have := HL.out; have := HL9.out; omega), HY9.out.2⟩
          · rw [hq] at ht
            obtain ⟨v9, ts9, e9, rfl, y9, k9'⟩ := ht
            have HY9 := hideIt (And.intro e9 (And.intro y9 ((Goes.one HU.out.2).trans k9')))
            have HQ := hideIt (hR2.out.trans (hq2.trans hq))
            clear y9 k9' e9 hq hq2
            go_wp2_with fail
            go_ret
            rw [HQ.out]
            exact ⟨v9, ts9, HY9.out.1, rfl, HY9.out.2.1, HY9.out.2.2⟩
        · have HM := hideIt hm
          clear hm
          go_wp2_with fail
          refine (take_no (t := [62]) HZ0.out.1 (by rw [HM.out]; decide)).mono ?_
          rintro e v0 ⟨rfl, y9, b9⟩
          have HZ1 := hideIt (And.intro y9 (HZ0.out.2.trans b9))
          clear y9 b9
          go_wp2_with fail
          refine (take_no (t := [60]) HZ1.out.1 (by rw [HM.out]; decide)).mono ?_
          rintro e v1 ⟨rfl, y9, b9⟩
          have HZ2 := hideIt (And.intro y9 (HZ1.out.2.trans b9))
          clear y9 b9
          go_wp2_with fail
          refine (take_yes (t := wHigh) HZ2.out.1 HM.out).mono ?_
          rintro e u1 ⟨rfl, y9, b9⟩
          have HU := hideIt (And.intro y9 (HZ2.out.2.trans b9))
          have hl9 := hd_tail (ws := wds ts.tail) (by rw [hd_wds, HM.out]; decide)
          rw [← wds_tail, wds_length, wds_length] at hl9
          have HL9 := hideIt hl9
          have hq2 := HIs.out.2.2.1 2 (by omega) (by omega) (by rw [hd_wds, HM.out]; decide)
          have HQ := hideIt (hR2.out.trans hq2)
          have HPx := hideIt (putX y9 ⟨3, (j : Int), 0, 0⟩ (by have := HX.out.few; have := HL.out; have := HL9.out; omega))
          unfold Nd.val at HPx
          clear y9 b9 hl9 hq2
          go_wp2_with fail
          refine HPx.out.mono ?_
          rintro e u2 ⟨v9, rfl, y9, k9⟩
          have HY9 := hideIt (And.intro y9 ((Goes.one HU.out.2).trans k9))
          clear y9 k9
          go_wp2
          go_ret
          rw [HQ.out]
          exact ⟨v9, ts.tail.tail, wds_tail _, rfl, HY9.out.1, HY9.out.2⟩
        · have HM := hideIt hm
          clear hm
          go_wp2_with fail
          refine (take_no (t := [62]) HZ0.out.1 (by rw [HM.out]; decide)).mono ?_
          rintro e v0 ⟨rfl, y9, b9⟩
          have HZ1 := hideIt (And.intro y9 (HZ0.out.2.trans b9))
          clear y9 b9
          go_wp2_with fail
          refine (take_no (t := [60]) HZ1.out.1 (by rw [HM.out]; decide)).mono ?_
          rintro e v1 ⟨rfl, y9, b9⟩
          have HZ2 := hideIt (And.intro y9 (HZ1.out.2.trans b9))
          clear y9 b9
          go_wp2_with fail
          refine (take_no (t := wHigh) HZ2.out.1 (by rw [HM.out]; decide)).mono ?_
          rintro e v2 ⟨rfl, y9, b9⟩
          have HZ3 := hideIt (And.intro y9 (HZ2.out.2.trans b9))
          clear y9 b9
          go_wp2_with fail
          refine (take_yes (t := wLow) HZ3.out.1 HM.out).mono ?_
          rintro e u1 ⟨rfl, y9, b9⟩
          have HU := hideIt (And.intro y9 (HZ3.out.2.trans b9))
          have hl9 := hd_tail (ws := wds ts.tail) (by rw [hd_wds, HM.out]; decide)
          rw [← wds_tail, wds_length, wds_length] at hl9
          have HL9 := hideIt hl9
          have hq2 := HIs.out.2.2.1 3 (by omega) (by omega) (by rw [hd_wds, HM.out]; decide)
          have HQ := hideIt (hR2.out.trans hq2)
          have HPx := hideIt (putX y9 ⟨4, (j : Int), 0, 0⟩ (by have := HX.out.few; have := HL.out; have := HL9.out; omega))
          unfold Nd.val at HPx
          clear y9 b9 hl9 hq2
          go_wp2_with fail
          refine HPx.out.mono ?_
          rintro e u2 ⟨v9, rfl, y9, k9⟩
          have HY9 := hideIt (And.intro y9 ((Goes.one HU.out.2).trans k9))
          clear y9 k9
          go_wp2
          go_ret
          rw [HQ.out]
          exact ⟨v9, ts.tail.tail, wds_tail _, rfl, HY9.out.1, HY9.out.2⟩
        · have HM := hideIt hm
          clear hm
          go_wp2_with fail
          refine (take_no (t := [62]) HZ0.out.1 (by rw [HM.out]; decide)).mono ?_
          rintro e v0 ⟨rfl, y9, b9⟩
          have HZ1 := hideIt (And.intro y9 (HZ0.out.2.trans b9))
          clear y9 b9
          go_wp2_with fail
          refine (take_no (t := [60]) HZ1.out.1 (by rw [HM.out]; decide)).mono ?_
          rintro e v1 ⟨rfl, y9, b9⟩
          have HZ2 := hideIt (And.intro y9 (HZ1.out.2.trans b9))
          clear y9 b9
          go_wp2_with fail
          refine (take_no (t := wHigh) HZ2.out.1 (by rw [HM.out]; decide)).mono ?_
          rintro e v2 ⟨rfl, y9, b9⟩
          have HZ3 := hideIt (And.intro y9 (HZ2.out.2.trans b9))
          clear y9 b9
          go_wp2_with fail
          refine (take_no (t := wLow) HZ3.out.1 (by rw [HM.out]; decide)).mono ?_
          rintro e v3 ⟨rfl, y9, b9⟩
          have HZ4 := hideIt (And.intro y9 (HZ3.out.2.trans b9))
          clear y9 b9
          go_wp2_with fail
          refine (take_yes (t := wKnown) HZ4.out.1 HM.out).mono ?_
          rintro e u1 ⟨rfl, y9, b9⟩
          have HU := hideIt (And.intro y9 (HZ4.out.2.trans b9))
          have hl9 := hd_tail (ws := wds ts.tail) (by rw [hd_wds, HM.out]; decide)
          rw [← wds_tail, wds_length, wds_length] at hl9
          have HL9 := hideIt hl9
          have hq2 := HIs.out.2.2.1 4 (by omega) (by omega) (by rw [hd_wds, HM.out]; decide)
          have HQ := hideIt (hR2.out.trans hq2)
          have HPx := hideIt (putX y9 ⟨5, (j : Int), 0, 0⟩ (by have := HX.out.few; have := HL.out; have := HL9.out; omega))
          unfold Nd.val at HPx
          clear y9 b9 hl9 hq2
          go_wp2_with fail
          refine HPx.out.mono ?_
          rintro e u2 ⟨v9, rfl, y9, k9⟩
          have HY9 := hideIt (And.intro y9 ((Goes.one HU.out.2).trans k9))
          clear y9 k9
          go_wp2
          go_ret
          rw [HQ.out]
          exact ⟨v9, ts.tail.tail, wds_tail _, rfl, HY9.out.1, HY9.out.2⟩
        · have HM := hideIt hm
          clear hm
          go_wp2_with fail
          refine (take_no (t := [62]) HZ0.out.1 HM.out.1).mono ?_
          rintro e v0 ⟨rfl, y9, b9⟩
          have HZ1 := hideIt (And.intro y9 (HZ0.out.2.trans b9))
          clear y9 b9
          go_wp2_with fail
          refine (take_no (t := [60]) HZ1.out.1 HM.out.2.1).mono ?_
          rintro e v1 ⟨rfl, y9, b9⟩
          have HZ2 := hideIt (And.intro y9 (HZ1.out.2.trans b9))
          clear y9 b9
          go_wp2_with fail
          refine (take_no (t := wHigh) HZ2.out.1 HM.out.2.2.1).mono ?_
          rintro e v2 ⟨rfl, y9, b9⟩
          have HZ3 := hideIt (And.intro y9 (HZ2.out.2.trans b9))
          clear y9 b9
          go_wp2_with fail
          refine (take_no (t := wLow) HZ3.out.1 HM.out.2.2.2.1).mono ?_
          rintro e v3 ⟨rfl, y9, b9⟩
          have HZ4 := hideIt (And.intro y9 (HZ3.out.2.trans b9))
          clear y9 b9
          go_wp2_with fail
          refine (take_no (t := wKnown) HZ4.out.1 HM.out.2.2.2.2).mono ?_
          rintro e v4 ⟨rfl, y9, b9⟩
          have HZ5 := hideIt (And.intro y9 (HZ4.out.2.trans b9))
          clear y9 b9
          have hq2 := HIs.out.2.2.2 (by rw [hd_wds]; unfold atomN; rw [if_neg HM.out.1, if_neg HM.out.2.1, if_neg HM.out.2.2.1, if_neg HM.out.2.2.2.1, if_neg HM.out.2.2.2.2])
          have HQ := hideIt (hR2.out.trans hq2)
          obtain ⟨i5, hb5⟩ := HZ5.out.1.blk
          obtain ⟨hg5, p0, p1, p2, p3, p4, pz⟩ := five_at hb5
          have pz2 := pz 2
          clear hb5 pz hq2
          go_wp2
          go_ret
          rw [HQ.out, wds_length]
          exact ⟨0, v, rfl, HZ5.out.1.wrong rfl (by omega), (Goes.one HZ5.out.2).trans (Goes.one (but_one _ _ _ _))⟩
    · have hj' : j = 8 := by have := HN.out.1; omega
      have h2 := HN.out.2.2.2 (by have := HN.out.1; omega)
      rw [h2] at hR
      subst hj'
      obtain ⟨i, hb⟩ := x1.blk
      obtain ⟨hg, c0, c1, c2, c3, c4, hz⟩ := five_at hb
      have hz2 := hz 2
      clear x1 bw hj hj8 hb hz h2
      go_wp2
      go_ret
      rw [hR.out]
      exact ⟨0, v, rfl, HX1.out.1.wrong rfl (by omega), (Goes.one HX1.out.2).trans (Goes.one (but_one _ _ _ _))⟩
/-- An atom of the document's reader. -/
theorem atomD {w0 : World} {g : Nat} {s : W8} {d n : Nat} {p : List W8 → List Nd → Rs} (hf : ∀ ws ns, Fine (p ws ns) ws ns) (D : d < 32 → DDoes 30 w0 g s (d + 1) p n) {w : World} {v : Value} {ts : List (Nat × W8)} {ns : List Nd} (hn : ts.length < n + 1) (x : RfX w0 w g s d v ts ns) :
    Calls Tryz.prog 106 #[Ptr g] w fun e w' => DTold w0 g s d v w (ns.length + ts.length) (atomP d p (wds ts) ns) e w' := by
  by_cases hT : hdT ts = wTrue
  · exact trueD x hT
  by_cases h32 : d < 32
  · by_cases hb : hdT ts = [40]
    · exact bracketD hf h32 (D h32) hn x hb
    · refine chanD h32 hb x hT (hideIt ?_)
      unfold atomP
      rw [hd_wds, if_neg hb, if_neg hT]
      rcases chanOf (hdT ts) with _ | c
      · show Except.error (wds ts).length = _
        rw [wds_length]
      · rfl
  · refine chanD2 h32 x hT (hideIt ?_)
    by_cases hb : hdT ts = [40]
    · unfold atomP brP
      rw [hd_wds, if_pos hb, if_neg h32, hb, show chanOf [40] = none from by decide, wds_length]
    · unfold atomP
      rw [hd_wds, if_neg hb, if_neg hT]
      rcases chanOf (hdT ts) with _ | c
      · show Except.error (wds ts).length = _
        rw [wds_length]
      · rfl
end Go.Proofs.YtlfcihanhfabmaaGreatDoor
