/-
  AlarmDeeds.
-/
import Derived.Test.YthggkpmhcdmalaaAlW
namespace Go.Proofs.Ythggkpmhcdmalaa
open Go.RowKit
set_option maxRecDepth 8000
/-- Two pairs, the one behind the other. -/
structure Kp18 (w : World) (L1 L2 L3 : Nat) (va vb vc vd : Value) (W : World) : Prop where
  a : Bo W L1 L2 va vb
  b : Bo W L2 L3 vc vd
  aft : After w W
  top : L3 ≤ W.heap.size
  mid : L2 ≤ L3
  low : w.heap.size ≤ L1
theorem Kp18.one {w : World} {L1 L2 L3 : Nat} {va vb vc vd : Value} {W : World} (h : Kp18 w L1 L2 L3 va vb vc vd W) (d : Dd) (hd : d.In) : Calls Try.prog 13 #[va, vb, d.v] W fun e w' => e = .returned (.bool true) ∧ Kp18 w L1 L2 L3 va vb vc vd w' := by
  have := h.mid
  have := h.top
  refine (deed_any h.a (by omega) d hd).mono ?_
  rintro e w' ⟨rfl, x, b⟩
  exact ⟨rfl, x, h.b.but b (fun k h1 h2 t => by have := t.2; omega), h.aft.then b (fun i hi t => by have := t.1; have := h.low; omega), Nat.le_trans h.top b.size, h.mid, h.low⟩
theorem Kp18.two {w : World} {L1 L2 L3 : Nat} {va vb vc vd : Value} {W : World} (h : Kp18 w L1 L2 L3 va vb vc vd W) (h12 : L1 ≤ L2) (d : Dd) (hd : d.In) : Calls Try.prog 13 #[vc, vd, d.v] W fun e w' => e = .returned (.bool true) ∧ Kp18 w L1 L2 L3 va vb vc vd w' := by
  refine (deed_any h.b h.top d hd).mono ?_
  rintro e w' ⟨rfl, x, b⟩
  exact ⟨rfl, h.a.but b (fun k h1 h2 t => by have := t.1; omega), x, h.aft.then b (fun i hi t => by have := t.1; have := h.low; omega), Nat.le_trans h.top b.size, h.mid, h.low⟩
set_option maxHeartbeats 8000000 in
theorem law_deeds18 (w : World) (s : Sp) (x : As) (a : Option Addr) (n c : Nat) (xs : List Dd) (hr : DdRow w a n xs) (hx : ∀ d ∈ xs, d.In) (hn : n ≤ 5864062014634) :
    Calls Try.prog 3 #[s.v, x.v, .slice a n c] w fun e w' => e = .returned (.bool true) ∧ After w w' := by
  have HR := hideIt hr
  have HX := hideIt hx
  have hn' : (n : Int) ≤ 5864062014634 := by omega
  have HW := hideIt (fun V => works_any V)
  obtain ⟨W2, hW2⟩ : ∃ W2, W2 = boxed w s x := ⟨_, rfl⟩
  have BX := hideIt (fun V (h : After W2 V) => box_two w s x V (by rw [← hW2]; exact h))
  have W2A := hideIt (show After w W2 by rw [hW2]; exact boxed_after w s x)
  have A0 := hideIt (After.rfl (w := W2))
  unfold boxed Sp.cs As.cs at hW2
  clear hr hx
  by_cases hm : s.May
  · have HCc := hideIt (fun V => new_ok V s hm)
    have HDd := hideIt (fun V => refNew_ok V s hm)
    by_cases hs : s.Stands x
    · have HA := hideIt (fun V => again_ok V s x hm hs)
      have HBb := hideIt (fun V => refAgain_ok V s x hm hs)
      clear hm hs
      go_enter Try.func3, Try.ntmps3
      go_upto_region 1 with fail
      rw [← hW2]
      clear hW2
      obtain ⟨c0, c1, c2, c3, c4, c5, c6⟩ := BX.out _ A0.out
      go_wp2_with fail
      refine (HA.out _).mono ?_
      rintro e w1 ⟨pa, rfl, xa, ha, aa⟩
      have Xa := hideIt (And.intro xa ha)
      have Sa := hideIt aa
      have A1 := hideIt (A0.out.trans aa)
      clear aa xa ha HA c0 c1 c2 c3 c4 c5 c6
      obtain ⟨c0, c1, c2, c3, c4, c5, c6⟩ := BX.out _ A1.out
      go_wp2_with fail
      refine (HBb.out _).mono ?_
      rintro e w2 ⟨pb, rfl, xb, hb, ab⟩
      have Xb := hideIt (And.intro xb hb)
      have Sb := hideIt ab
      have A2 := hideIt (A1.out.trans ab)
      clear ab xb hb HBb c0 c1 c2 c3 c4 c5 c6
      obtain ⟨c0, c1, c2, c3, c4, c5, c6⟩ := BX.out _ A2.out
      go_wp2_with fail
      refine (HCc.out _).mono ?_
      rintro e w3 ⟨pc, rfl, xc, hc, ac⟩
      have Xc := hideIt (And.intro xc hc)
      have Sc := hideIt ac
      have A3 := hideIt (A2.out.trans ac)
      clear ac xc hc HCc c0 c1 c2 c3 c4 c5 c6
      obtain ⟨c0, c1, c2, c3, c4, c5, c6⟩ := BX.out _ A3.out
      go_wp2_with fail
      refine (HDd.out _).mono ?_
      rintro e w4 ⟨pd, rfl, xd, hd, ad⟩
      have Xd := hideIt (And.intro xd hd)
      have Sd := hideIt ad
      have A4 := hideIt (A3.out.trans ad)
      clear ad xd hd HDd c0 c1 c2 c3 c4 c5 c6
      have B1 := hideIt (show Bo w2 W2.heap.size w2.heap.size (Ptr pa) (Ptr pb) from .inr ⟨pa, pb, s, x, rfl, rfl, Xa.out.1.after Sb.out, Xb.out.1, (by have := Xa.out.1.lt; have := Xb.out.2; omega), Xa.out.2, Nat.lt_of_lt_of_le Xa.out.1.lt Sb.out.size, Nat.le_trans Sa.out.size Xb.out.2, Xb.out.1.lt⟩)
      have B2 := hideIt (show Bo w4 w2.heap.size w4.heap.size (Ptr pc) (Ptr pd) from .inr ⟨pc, pd, s, As.zero, rfl, rfl, Xc.out.1.after Sd.out, Xd.out.1, (by have := Xc.out.1.lt; have := Xd.out.2; omega), Xc.out.2, Nat.lt_of_lt_of_le Xc.out.1.lt Sd.out.size, Nat.le_trans Sc.out.size Xd.out.2, Xd.out.1.lt⟩)
      have K0 := hideIt (show Kp18 w W2.heap.size w2.heap.size w4.heap.size (Ptr pa) (Ptr pb) (Ptr pc) (Ptr pd) w4 from ⟨B1.out.after (Sc.out.trans Sd.out), B2.out, W2A.out.trans A4.out, Nat.le_refl _, (Sc.out.trans Sd.out).size, W2A.out.size⟩)
      have LL := hideIt (show W2.heap.size ≤ w2.heap.size from A2.out.size)
      clear B1 B2 Sa Sb Sc Sd A0 A1 A2 A3 A4 BX W2A Xa Xb Xc Xd
      generalize W2.heap.size = L1 at *
      generalize w2.heap.size = L2 at *
      generalize w4.heap.size = L3 at *
      go_wp2_with fail
      go_loopw [15] (fun i wr => ∃ (j : Nat), i = .int .i64 j ∧ j ≤ n ∧ Kp18 w L1 L2 L3 (Ptr pa) (Ptr pb) (Ptr pc) (Ptr pd) wr) (fun i _ => n - (intOf i).toNat)
      case atStart => exact ⟨0, rfl, Nat.zero_le _, K0.out⟩
      case round =>
        obtain ⟨j, rfl, hj, kp⟩ := hrel
        have KP := hideIt kp
        clear kp K0
        by_cases hjn : j < n
        · have i1 : (j : Int) < (n : Int) := by omega
          obtain ⟨b, off, d, rfl, hb, hd, hce⟩ := HR.out.cellAt hjn
          have hdi : d.In := HX.out d (List.mem_of_getElem? hd)
          have HC := hideIt hce
          have HI := hideIt hdi
          obtain ⟨c0, c1, c2⟩ := hce _ KP.out.aft
          have HD1 := hideIt (KP.out.one d hdi)
          have tr : (j : Int).tmod 2 = ((j % 2 : Nat) : Int) := rfl
          have tr2 : j % 2 < 2 := Nat.mod_lt _ (by omega)
          clear hce hdi hd
          generalize j % 2 = R at *
          go_wp2_with fail
          refine HD1.out.mono ?_
          rintro e w5 ⟨rfl, k5⟩
          have K5 := hideIt k5
          clear k5 HD1 c0 c1 c2
          obtain ⟨c0, c1, c2⟩ := HC.out _ K5.out.aft
          rcases (by omega : R = 0 ∨ R = 1) with hR | hR
          · have gr : ((R : Int) == 0) = true := by rw [hR]; rfl
            have gr2 : (R == 0) = true := by rw [hR]; rfl
            have HD2 := hideIt (K5.out.two LL.out d HI.out)
            clear hR
            go_wp2_with fail
            refine HD2.out.mono ?_
            rintro e w6 ⟨rfl, k6⟩
            have K6 := hideIt k6
            clear k6 HD2 c0 c1 c2
            go_wp2
            go_roundw
            case rel => exact ⟨j + 1, by go_num, by omega, K6.out⟩
            case measure => simp [intOf]; omega
          · have gr : ((R : Int) == 0) = false := by rw [hR]; rfl
            have gr2 : (R == 0) = false := by rw [hR]; rfl
            clear hR
            go_wp2
            go_roundw
            case rel => exact ⟨j + 1, by go_num, by omega, K5.out⟩
            case measure => simp [intOf]; omega
        · have i1 : ¬ (j : Int) < (n : Int) := by omega
          go_wp2_with fail
          refine (HW.out _).mono ?_
          rintro e w9 ⟨rfl, a9⟩
          go_wp2
          go_ret
          exact ⟨rfl, KP.out.aft.trans a9⟩
    · have HA := hideIt (fun V => again_no V s x (fun h => hs h.2))
      have HBb := hideIt (fun V => refAgain_no V s x (fun h => hs h.2))
      clear hm hs
      go_enter Try.func3, Try.ntmps3
      go_upto_region 1 with fail
      rw [← hW2]
      clear hW2
      obtain ⟨c0, c1, c2, c3, c4, c5, c6⟩ := BX.out _ A0.out
      go_wp2_with fail
      refine (HA.out _).mono ?_
      rintro e w1 ⟨rfl, aa⟩
      have Sa := hideIt aa
      have A1 := hideIt (A0.out.trans aa)
      clear aa  HA c0 c1 c2 c3 c4 c5 c6
      obtain ⟨c0, c1, c2, c3, c4, c5, c6⟩ := BX.out _ A1.out
      go_wp2_with fail
      refine (HBb.out _).mono ?_
      rintro e w2 ⟨rfl, ab⟩
      have Sb := hideIt ab
      have A2 := hideIt (A1.out.trans ab)
      clear ab  HBb c0 c1 c2 c3 c4 c5 c6
      obtain ⟨c0, c1, c2, c3, c4, c5, c6⟩ := BX.out _ A2.out
      go_wp2_with fail
      refine (HCc.out _).mono ?_
      rintro e w3 ⟨pc, rfl, xc, hc, ac⟩
      have Xc := hideIt (And.intro xc hc)
      have Sc := hideIt ac
      have A3 := hideIt (A2.out.trans ac)
      clear ac xc hc HCc c0 c1 c2 c3 c4 c5 c6
      obtain ⟨c0, c1, c2, c3, c4, c5, c6⟩ := BX.out _ A3.out
      go_wp2_with fail
      refine (HDd.out _).mono ?_
      rintro e w4 ⟨pd, rfl, xd, hd, ad⟩
      have Xd := hideIt (And.intro xd hd)
      have Sd := hideIt ad
      have A4 := hideIt (A3.out.trans ad)
      clear ad xd hd HDd c0 c1 c2 c3 c4 c5 c6
      have B1 := hideIt (show Bo w2 W2.heap.size w2.heap.size (.pointer none) (.pointer none) from .inl ⟨rfl, rfl⟩)
      have B2 := hideIt (show Bo w4 w2.heap.size w4.heap.size (Ptr pc) (Ptr pd) from .inr ⟨pc, pd, s, As.zero, rfl, rfl, Xc.out.1.after Sd.out, Xd.out.1, (by have := Xc.out.1.lt; have := Xd.out.2; omega), Xc.out.2, Nat.lt_of_lt_of_le Xc.out.1.lt Sd.out.size, Nat.le_trans Sc.out.size Xd.out.2, Xd.out.1.lt⟩)
      have K0 := hideIt (show Kp18 w W2.heap.size w2.heap.size w4.heap.size (.pointer none) (.pointer none) (Ptr pc) (Ptr pd) w4 from ⟨B1.out.after (Sc.out.trans Sd.out), B2.out, W2A.out.trans A4.out, Nat.le_refl _, (Sc.out.trans Sd.out).size, W2A.out.size⟩)
      have LL := hideIt (show W2.heap.size ≤ w2.heap.size from A2.out.size)
      clear B1 B2 Sa Sb Sc Sd A0 A1 A2 A3 A4 BX W2A  Xc Xd
      generalize W2.heap.size = L1 at *
      generalize w2.heap.size = L2 at *
      generalize w4.heap.size = L3 at *
      go_wp2_with fail
      go_loopw [15] (fun i wr => ∃ (j : Nat), i = .int .i64 j ∧ j ≤ n ∧ Kp18 w L1 L2 L3 (.pointer none) (.pointer none) (Ptr pc) (Ptr pd) wr) (fun i _ => n - (intOf i).toNat)
      case atStart => exact ⟨0, rfl, Nat.zero_le _, K0.out⟩
      case round =>
        obtain ⟨j, rfl, hj, kp⟩ := hrel
        have KP := hideIt kp
        clear kp K0
        by_cases hjn : j < n
        · have i1 : (j : Int) < (n : Int) := by omega
          obtain ⟨b, off, d, rfl, hb, hd, hce⟩ := HR.out.cellAt hjn
          have hdi : d.In := HX.out d (List.mem_of_getElem? hd)
          have HC := hideIt hce
          have HI := hideIt hdi
          obtain ⟨c0, c1, c2⟩ := hce _ KP.out.aft
          have HD1 := hideIt (KP.out.one d hdi)
          have tr : (j : Int).tmod 2 = ((j % 2 : Nat) : Int) := rfl
          have tr2 : j % 2 < 2 := Nat.mod_lt _ (by omega)
          clear hce hdi hd
          generalize j % 2 = R at *
          go_wp2_with fail
          refine HD1.out.mono ?_
          rintro e w5 ⟨rfl, k5⟩
          have K5 := hideIt k5
          clear k5 HD1 c0 c1 c2
          obtain ⟨c0, c1, c2⟩ := HC.out _ K5.out.aft
          rcases (by omega : R = 0 ∨ R = 1) with hR | hR
          · have gr : ((R : Int) == 0) = true := by rw [hR]; rfl
            have gr2 : (R == 0) = true := by rw [hR]; rfl
            have HD2 := hideIt (K5.out.two LL.out d HI.out)
            clear hR
            go_wp2_with fail
            refine HD2.out.mono ?_
            rintro e w6 ⟨rfl, k6⟩
            have K6 := hideIt k6
            clear k6 HD2 c0 c1 c2
            go_wp2
            go_roundw
            case rel => exact ⟨j + 1, by go_num, by omega, K6.out⟩
            case measure => simp [intOf]; omega
          · have gr : ((R : Int) == 0) = false := by rw [hR]; rfl
            have gr2 : (R == 0) = false := by rw [hR]; rfl
            clear hR
            go_wp2
            go_roundw
            case rel => exact ⟨j + 1, by go_num, by omega, K5.out⟩
            case measure => simp [intOf]; omega
        · have i1 : ¬ (j : Int) < (n : Int) := by omega
          go_wp2_with fail
          refine (HW.out _).mono ?_
          rintro e w9 ⟨rfl, a9⟩
          go_wp2
          go_ret
          exact ⟨rfl, KP.out.aft.trans a9⟩
  · have HCc := hideIt (fun V => new_no V s hm)
    have HDd := hideIt (fun V => refNew_no V s hm)
    have HA := hideIt (fun V => again_no V s x (fun h => hm h.1))
    have HBb := hideIt (fun V => refAgain_no V s x (fun h => hm h.1))
    clear hm
    go_enter Try.func3, Try.ntmps3
    go_upto_region 1 with fail
    rw [← hW2]
    clear hW2
    obtain ⟨c0, c1, c2, c3, c4, c5, c6⟩ := BX.out _ A0.out
    go_wp2_with fail
    refine (HA.out _).mono ?_
    rintro e w1 ⟨rfl, aa⟩
    have Sa := hideIt aa
    have A1 := hideIt (A0.out.trans aa)
    clear aa  HA c0 c1 c2 c3 c4 c5 c6
    obtain ⟨c0, c1, c2, c3, c4, c5, c6⟩ := BX.out _ A1.out
    go_wp2_with fail
    refine (HBb.out _).mono ?_
    rintro e w2 ⟨rfl, ab⟩
    have Sb := hideIt ab
    have A2 := hideIt (A1.out.trans ab)
    clear ab  HBb c0 c1 c2 c3 c4 c5 c6
    obtain ⟨c0, c1, c2, c3, c4, c5, c6⟩ := BX.out _ A2.out
    go_wp2_with fail
    refine (HCc.out _).mono ?_
    rintro e w3 ⟨rfl, ac⟩
    have Sc := hideIt ac
    have A3 := hideIt (A2.out.trans ac)
    clear ac  HCc c0 c1 c2 c3 c4 c5 c6
    obtain ⟨c0, c1, c2, c3, c4, c5, c6⟩ := BX.out _ A3.out
    go_wp2_with fail
    refine (HDd.out _).mono ?_
    rintro e w4 ⟨rfl, ad⟩
    have Sd := hideIt ad
    have A4 := hideIt (A3.out.trans ad)
    clear ad  HDd c0 c1 c2 c3 c4 c5 c6
    have B1 := hideIt (show Bo w2 W2.heap.size w2.heap.size (.pointer none) (.pointer none) from .inl ⟨rfl, rfl⟩)
    have B2 := hideIt (show Bo w4 w2.heap.size w4.heap.size (.pointer none) (.pointer none) from .inl ⟨rfl, rfl⟩)
    have K0 := hideIt (show Kp18 w W2.heap.size w2.heap.size w4.heap.size (.pointer none) (.pointer none) (.pointer none) (.pointer none) w4 from ⟨B1.out.after (Sc.out.trans Sd.out), B2.out, W2A.out.trans A4.out, Nat.le_refl _, (Sc.out.trans Sd.out).size, W2A.out.size⟩)
    have LL := hideIt (show W2.heap.size ≤ w2.heap.size from A2.out.size)
    clear B1 B2 Sa Sb Sc Sd A0 A1 A2 A3 A4 BX W2A  
    generalize W2.heap.size = L1 at *
    generalize w2.heap.size = L2 at *
    generalize w4.heap.size = L3 at *
    go_wp2_with fail
    go_loopw [15] (fun i wr => ∃ (j : Nat), i = .int .i64 j ∧ j ≤ n ∧ Kp18 w L1 L2 L3 (.pointer none) (.pointer none) (.pointer none) (.pointer none) wr) (fun i _ => n - (intOf i).toNat)
    case atStart => exact ⟨0, rfl, Nat.zero_le _, K0.out⟩
    case round =>
      obtain ⟨j, rfl, hj, kp⟩ := hrel
      have KP := hideIt kp
      clear kp K0
      by_cases hjn : j < n
      · have i1 : (j : Int) < (n : Int) := by omega
        obtain ⟨b, off, d, rfl, hb, hd, hce⟩ := HR.out.cellAt hjn
        have hdi : d.In := HX.out d (List.mem_of_getElem? hd)
        have HC := hideIt hce
        have HI := hideIt hdi
        obtain ⟨c0, c1, c2⟩ := hce _ KP.out.aft
        have HD1 := hideIt (KP.out.one d hdi)
        have tr : (j : Int).tmod 2 = ((j % 2 : Nat) : Int) := rfl
        have tr2 : j % 2 < 2 := Nat.mod_lt _ (by omega)
        clear hce hdi hd
        generalize j % 2 = R at *
        go_wp2_with fail
        refine HD1.out.mono ?_
        rintro e w5 ⟨rfl, k5⟩
        have K5 := hideIt k5
        clear k5 HD1 c0 c1 c2
        obtain ⟨c0, c1, c2⟩ := HC.out _ K5.out.aft
        rcases (by omega : R = 0 ∨ R = 1) with hR | hR
        · have gr : ((R : Int) == 0) = true := by rw [hR]; rfl
          have gr2 : (R == 0) = true := by rw [hR]; rfl
          have HD2 := hideIt (K5.out.two LL.out d HI.out)
          clear hR
          go_wp2_with fail
          refine HD2.out.mono ?_
          rintro e w6 ⟨rfl, k6⟩
          have K6 := hideIt k6
          clear k6 HD2 c0 c1 c2
          go_wp2
          go_roundw
          case rel => exact ⟨j + 1, by go_num, by omega, K6.out⟩
          case measure => simp [intOf]; omega
        · have gr : ((R : Int) == 0) = false := by rw [hR]; rfl
          have gr2 : (R == 0) = false := by rw [hR]; rfl
          clear hR
          go_wp2
          go_roundw
          case rel => exact ⟨j + 1, by go_num, by omega, K5.out⟩
          case measure => simp [intOf]; omega
      · have i1 : ¬ (j : Int) < (n : Int) := by omega
        go_wp2_with fail
        refine (HW.out _).mono ?_
        rintro e w9 ⟨rfl, a9⟩
        go_wp2
        go_ret
        exact ⟨rfl, KP.out.aft.trans a9⟩
end Go.Proofs.Ythggkpmhcdmalaa
