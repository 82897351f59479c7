/-
  AlarmGrows.
-/
import Derived.Test.YthggkpmhcdmalaaAlH
import Derived.Lib.MinMax
import Derived.Deep.QuietTactic
namespace Go.Proofs.Ythggkpmhcdmalaa
open Go.RowKit
set_option maxRecDepth 8000
/-- Behind j steps. -/
def Gro (w : World) (p : Nat) (S : Sp) (P e j : Nat) (W : World) : Prop := ∃ x, Wk w W p S x ∧ ((j = 0 ∧ x = As.zero) ∨ (0 < j ∧ Grown P e (j - 1) x))
/-- One step further: what happened. -/
theorem gro_step {S : Sp} {P e j : Nat} {x : As} (h1 : S.pr = (P : Int)) (h2 : S.es = (e : Int)) (hP : P ≤ 3) (h : (j = 0 ∧ x = As.zero) ∨ (0 < j ∧ Grown P e (j - 1) x)) :
    Grown P e j (stS S x true) ∧ ((j = 0 ∧ gV P e j = false ∧ stE S x true = [1]) ∨ (0 < j ∧ gV P e j = true ∧ stE S x true = [3]) ∨ (0 < j ∧ gV P e j = false ∧ stE S x true = [])) := by
  have eS : S = ⟨P, S.la, e⟩ := by cases S; simp_all
  rcases h with ⟨rfl, rfl⟩ | ⟨hj, g⟩
  · have := grown_first P e S.la hP
    rw [← eS] at this
    exact ⟨this.1, .inl ⟨rfl, by unfold gV; simp, this.2⟩⟩
  · have := grown_next (la := S.la) g
    rw [← eS, show j - 1 + 1 = j by omega] at this
    refine ⟨this.1, ?_⟩
    cases hv : gV P e j
    · rw [hv] at this
      exact .inr (.inr ⟨hj, rfl, this.2⟩)
    · rw [hv] at this
      exact .inr (.inl ⟨hj, rfl, this.2⟩)
/-- Which tests are met. -/
theorem gv_ways (P e j : Nat) : (e = 0 ∧ gV P e j = false ∧ gP P e j = P) ∨ (0 < e ∧ gP P e j = min (P + j / e) 3 ∧ ((j = 0 ∧ gV P e j = false) ∨ (0 < j ∧ ¬ j % e = 0 ∧ gV P e j = false) ∨ (0 < j ∧ j % e = 0 ∧ ¬ P + j / e ≤ 3 ∧ gV P e j = false) ∨ (0 < j ∧ j % e = 0 ∧ P + j / e ≤ 3 ∧ gV P e j = true))) := by
  by_cases he : e = 0
  · exact .inl ⟨he, by unfold gV; simp [he], by unfold gP; rw [if_pos he]⟩
  · refine .inr ⟨by omega, by unfold gP; rw [if_neg he], ?_⟩
    unfold gV
    simp only [decide_eq_true_eq, decide_eq_false_iff_not]
    omega
/-- Events held against one. -/
theorem eq_one {w : World} {a : Option Addr} {n c : Nat} {xs : List Int} (ir : IRow w a n xs) (hn : n ≤ 2) (z : Int) :
    Calls Try.prog 19 #[.slice a n c, .slice (some ⟨w.heap.size, 0, none⟩) 1 1] (w.alloc (.cells #[.int .i64 z] 3)) fun e w' => e = .returned (.bool (decide (xs = [z]))) ∧ After w w' := by
  refine (eqInts_any _ a _ n 1 c 1 xs [z] (ir.after (After.rfl.alloc _)) (lit_irow (heap_alloc_new w _) rfl rfl) (by omega)).mono ?_
  rintro e w2 ⟨rfl, a2⟩
  exact ⟨rfl, (After.rfl.alloc _).trans a2⟩
set_option maxHeartbeats 4000000 in
theorem law_grows18 (w : World) (s : Sp) (hs : s.In) (n : Int) (hn1 : -9223372036854775808 ≤ n) (hn2 : n ≤ 9223372036854775807) :
    Calls Try.prog 7 #[s.v, .int .i64 n] w fun e w' => e = .returned (.bool true) ∧ After w w' := by
  have HB := hideIt (fun V => bring60 n V hn1 hn2)
  have hB := broughtTo_lt n (m := 60) (by omega)
  generalize broughtTo n 60 = B at *
  clear hn1 hn2
  have HW := hideIt (fun V => works_any V)
  have HS := hideIt (fun V => spec_any V s hs)
  have HM := hideIt (spc_may s)
  unfold Sp.v at HS
  generalize spc s = S at *
  obtain ⟨w0, hw0⟩ : ∃ w0, w0 = w.alloc (.cells s.cs 23) := ⟨_, rfl⟩
  have h0 : w0.heap[w.heap.size]? = some (.cells s.cs 23 (0, 0)) := by rw [hw0]; exact heap_alloc_new w _
  have A0 := hideIt (show After w w0 by rw [hw0]; exact After.rfl.alloc _)
  have H0 := hideIt h0
  clear hs h0
  go_enter Try.func7, Try.ntmps7
  go_wp2_with fail
  rw [← hw0]
  clear hw0
  refine (HW.out _).mono ?_
  rintro e w1 ⟨rfl, a1⟩
  obtain ⟨c0, c1, c2⟩ := spec_at H0.out a1
  have A1 := hideIt a1
  clear a1 HW
  go_wp2_with fail
  refine (HS.out _).mono ?_
  rintro e w2 ⟨rfl, a2⟩
  clear c0 c1 c2 HS
  have hb := ((A1.out.trans a2).block w.heap.size (blk_lt H0.out) (fun t => t)).trans H0.out
  have z0 := blk_cell (i := 0) (v := .int .i64 s.pr) hb rfl
  have z1 := blk_cell (i := 1) (v := .bool s.la) hb rfl
  have z2 := blk_cell (i := 2) (v := .int .i64 s.es) hb rfl
  have y0 := blk_soft hb 0
  have y1 := blk_soft hb 1
  have y2 := blk_soft hb 2
  obtain ⟨w3, hw3⟩ : ∃ w3, w3 = ((w2.setCell ⟨w.heap.size, 0, none⟩ (.int .i64 S.pr)).setCell ⟨w.heap.size, 1, none⟩ (.bool S.la)).setCell ⟨w.heap.size, 2, none⟩ (.int .i64 S.es) := ⟨_, rfl⟩
  have h3 : w3.heap[w.heap.size]? = some (.cells S.cs 23 (0, 0)) := by rw [hw3]; exact blk_put (blk_put (blk_put hb 0 _) 1 _) 2 _
  have W3 := hideIt (show After w w3 by
    rw [hw3]
    have a : After w w2 := A0.out.trans (A1.out.trans a2)
    exact ((After.set a ⟨w.heap.size, 0, none⟩ (Nat.le_refl _) _).set ⟨w.heap.size, 1, none⟩ (Nat.le_refl _) _).set ⟨w.heap.size, 2, none⟩ (Nat.le_refl _) _)
  have BX := hideIt (fun V (a : After w3 V) => spec_at h3 a)
  have HN := hideIt (wk_new w3 S HM.out)
  clear a2 hb h3 A0 A1 H0
  go_wp2_with fail
  rw [← hw3]
  clear hw3 z0 z1 z2 y0 y1 y2
  refine HN.out.mono ?_
  rintro e w4 ⟨p, rfl, x4⟩
  have X := hideIt x4
  clear x4 HN
  obtain ⟨P, hP, q1, q2⟩ : ∃ P : Nat, S.pr = (P : Int) ∧ 1 ≤ P ∧ P ≤ 3 := ⟨S.pr.toNat, by have := HM.out.1; omega, by have := HM.out.1; omega, by have := HM.out.1; have := HM.out.2.1; omega⟩
  obtain ⟨e, hE, q3⟩ : ∃ e : Nat, S.es = (e : Int) ∧ e ≤ 10000 := ⟨S.es.toNat, by have := HM.out.2.2.1; omega, by have := HM.out.2.2.1; have := HM.out.2.2.2; omega⟩
  have BQ : Hid (∀ V, After w3 V → V.cell? ⟨w.heap.size, 0, none⟩ = some (.int .i64 (P : Int)) ∧ V.cell? ⟨w.heap.size, 2, none⟩ = some (.int .i64 (e : Int))) := fun V a => by
    have := BX.out V a
    rw [hP, hE] at this
    exact ⟨this.1, this.2.2⟩
  have HPE := hideIt (And.intro hP (And.intro hE q2))
  go_wp2_with fail
  clear hP hE BX
  go_loopw [7] (fun i wr => ∃ (j : Nat), i = .int .i64 j ∧ j ≤ B + 1 ∧ Gro w3 p S P e j wr) (fun i _ => B + 1 - (intOf i).toNat)
  case atStart => exact ⟨0, rfl, Nat.zero_le _, As.zero, X.out, .inl ⟨rfl, rfl⟩⟩
  case round =>
    obtain ⟨j, rfl, hj, x, wk, hg⟩ := hrel
    have WK := hideIt wk
    have GS := hideIt (gro_step HPE.out.1 HPE.out.2.1 HPE.out.2.2 hg)
    clear wk hg X
    have hw1 : IntKind.i64.wrap (1 + (B : Int)) = 1 + (B : Int) := IntWalk.i64_in _ (by omega)
    go_wp2_with fail
    refine (HB.out _).mono ?_
    rintro e' w5 ⟨rfl, rfl⟩
    by_cases hjn : j < B + 1
    · have i1 : (j : Int) < 1 + (B : Int) := by omega
      have HS := hideIt (step_any WK.out.al true)
      have HT := hideIt (fun V (y : Al V p S (stS S x true)) => state_any y)
      have HF := hideIt (st_few S x true)
      generalize stS S x true = x' at *
      generalize stE S x true = ev at *
      go_wp2_with fail
      refine HS.out.mono ?_
      rintro e' w6 ⟨v, rfl, own, x6, b6⟩
      obtain ⟨ea, ec, rfl, ir, -, -, -⟩ := own_irow own
      have W6 := hideIt (WK.out.put x6 b6)
      have I6 := hideIt ir
      clear own x6 b6 ir HS
      go_wp2_with fail
      refine (HT.out _ W6.out.al).mono ?_
      rintro e' w7 ⟨rfl, a7⟩
      have W7 := hideIt (W6.out.after a7)
      have I7 := hideIt (I6.out.after a7)
      clear a7 W6 I6 HT
      unfold As.v
      obtain ⟨w8, hw8⟩ : ∃ w8, w8 = w7.alloc (.cells x'.cs 25) := ⟨_, rfl⟩
      have h8 : w8.heap[w7.heap.size]? = some (.cells x'.cs 25 (0, 0)) := by rw [hw8]; exact heap_alloc_new w7 _
      have A8 := hideIt (show After w7 w8 by rw [hw8]; exact After.rfl.alloc _)
      have HX8 := hideIt (fun V (a : After w8 V) => state_at h8 a)
      have W8 := hideIt (W7.out.after A8.out)
      have I8 := hideIt (I7.out.after A8.out)
      obtain ⟨b0, b2⟩ := BQ.out _ W8.out.aft
      have hgp : x'.pr = (gP P e j : Nat) := GS.out.1.pr
      have hph : x'.ph = 1 := GS.out.1.ph
      have HPR := hideIt (And.intro hph hgp)
      have REL := hideIt (show ∀ V, After w8 V → Gro w3 p S P e (j + 1) V from fun V a => ⟨x', W8.out.after a, .inr ⟨by omega, GS.out.1⟩⟩)
      have EV := hideIt GS.out.2
      have GW := gv_ways P e j
      clear h8 A8 W7 I7 GS hph hgp
      have tq : (j : Int).tdiv (e : Int) = ((j / e : Nat) : Int) := rfl
      have tr : (j : Int).tmod (e : Int) = ((j % e : Nat) : Int) := rfl
      have hq60 : j / e ≤ 60 := Nat.le_trans (Nat.div_le_self j e) (by omega)
      generalize j / e = Q at *
      generalize j % e = R at *
      generalize gP P e j = G at *
      generalize gV P e j = V at *
      go_upto_region 12 with fail
      rw [← hw8]
      clear hw8
      rcases GW with ⟨he, rfl, gp⟩ | ⟨he, gp, GW⟩
      · have he' : ¬ (0 : Int) < (e : Int) := by omega
        have HG := hideIt (show x'.pr = (P : Int) by rw [HPR.out.2, gp])
        clear gp he tq tr hq60
        go_wp2_with fail
        go_quiet (fail)
        have A9 := hideIt (show After w8 (w8.drewN nq) from After.rfl.draws nq)
        generalize w8.drewN nq = w9 at *
        obtain ⟨p0, p1, p2, p3⟩ := HX8.out w9 A9.out
        rw [HPR.out.1] at p0
        rw [HG.out] at p1
        have E3 := hideIt (eq_one (c := ec) (I8.out.after A9.out) HF.out 3)
        have E1 := hideIt (fun W (a : After w9 W) => eq_one (c := ec) ((I8.out.after A9.out).after a) HF.out 1)
        have EV' := EV.out
        clear EV
        rcases EV' with ⟨hj2, -, hev⟩ | ⟨-, hv, -⟩ | ⟨hj2, -, hev⟩
        · rw [show decide (ev = [3]) = false by rw [hev]; decide] at E3
          rw [show decide (ev = [1]) = true by rw [hev]; decide] at E1
          have hj0 : ((j : Int) == 0) = true := by simp; omega
          clear hev hj2
          go_wp2_with fail
          refine E3.out.mono ?_
          rintro e' w10 ⟨rfl, a10⟩
          have A10 := hideIt a10
          clear a10 E3 p0 p1 p2 p3
          have E1' := hideIt (E1.out _ A10.out)
          go_wp2_with fail
          refine E1'.out.mono ?_
          rintro e' w11 ⟨rfl, a11⟩
          have A11 := hideIt (A9.out.trans (A10.out.trans a11))
          clear a11 E1 E1' A10
          go_wp2
          go_roundw
          case rel => exact ⟨j + 1, by go_num, by omega, REL.out _ A11.out⟩
          case measure => simp [intOf]; omega
        · cases hv
        · rw [show decide (ev = [3]) = false by rw [hev]; decide] at E3
          rw [show decide (ev = [1]) = false by rw [hev]; decide] at E1
          have hj0 : ((j : Int) == 0) = false := by simp; omega
          clear hev hj2
          go_wp2_with fail
          refine E3.out.mono ?_
          rintro e' w10 ⟨rfl, a10⟩
          have A10 := hideIt a10
          clear a10 E3 p0 p1 p2 p3
          have E1' := hideIt (E1.out _ A10.out)
          go_wp2_with fail
          refine E1'.out.mono ?_
          rintro e' w11 ⟨rfl, a11⟩
          have A11 := hideIt (A9.out.trans (A10.out.trans a11))
          clear a11 E1 E1' A10
          go_wp2
          go_roundw
          case rel => exact ⟨j + 1, by go_num, by omega, REL.out _ A11.out⟩
          case measure => simp [intOf]; omega
      · have he' : (0 : Int) < (e : Int) := by omega
        have hne : ¬ (e : Int) = 0 := by omega
        have hw : IntKind.i64.wrap ((P : Int) + (Q : Int)) = (P : Int) + (Q : Int) := IntWalk.i64_in _ (by omega)
        have hm : min ((P : Int) + (Q : Int)) 3 = (G : Int) := by omega
        have hwq : IntKind.i64.wrap (Q : Int) = (Q : Int) := IntWalk.i64_in _ (by omega)
        go_upto_region 15 with fail
        have HG := hideIt (show x'.pr = ((min (P + Q) 3 : Nat) : Int) by rw [HPR.out.2, gp])
        have hde : decide (0 < e) = true := decide_eq_true he
        have hde2 : decide ((0 : Int) < (e : Int)) = true := decide_eq_true he'
        clear hm hw hwq gp
        rcases GW with ⟨g1, rfl⟩ | ⟨g1, g2, rfl⟩ | ⟨g1, g2, g3, rfl⟩ | ⟨g1, g2, g3, rfl⟩
        · have gj : decide (0 < j) = false := decide_eq_false (by omega)
          have gj2 : decide ((0 : Int) < (j : Int)) = false := decide_eq_false (by omega)
          clear g1
          go_quiet (fail)
          have A9 := hideIt (show After w8 (w8.drewN nq) from After.rfl.draws nq)
          generalize w8.drewN nq = w9 at *
          obtain ⟨p0, p1, p2, p3⟩ := HX8.out w9 A9.out
          rw [HPR.out.1] at p0
          rw [HG.out] at p1
          have E3 := hideIt (eq_one (c := ec) (I8.out.after A9.out) HF.out 3)
          have E1 := hideIt (fun W (a : After w9 W) => eq_one (c := ec) ((I8.out.after A9.out).after a) HF.out 1)
          have EV' := EV.out
          clear EV
          rcases EV' with ⟨hj2, -, hev⟩ | ⟨-, hv, -⟩ | ⟨hj2, -, hev⟩
          · rw [show decide (ev = [3]) = false by rw [hev]; decide] at E3
            rw [show decide (ev = [1]) = true by rw [hev]; decide] at E1
            have hj0 : ((j : Int) == 0) = true := by simp; omega
            clear hev hj2
            go_wp2_with fail
            refine E3.out.mono ?_
            rintro e' w10 ⟨rfl, a10⟩
            have A10 := hideIt a10
            clear a10 E3 p0 p1 p2 p3
            have E1' := hideIt (E1.out _ A10.out)
            go_wp2_with fail
            refine E1'.out.mono ?_
            rintro e' w11 ⟨rfl, a11⟩
            have A11 := hideIt (A9.out.trans (A10.out.trans a11))
            clear a11 E1 E1' A10
            go_wp2
            go_roundw
            case rel => exact ⟨j + 1, by go_num, by omega, REL.out _ A11.out⟩
            case measure => simp [intOf]; omega
          · cases hv
          · rw [show decide (ev = [3]) = false by rw [hev]; decide] at E3
            rw [show decide (ev = [1]) = false by rw [hev]; decide] at E1
            have hj0 : ((j : Int) == 0) = false := by simp; omega
            clear hev hj2
            go_wp2_with fail
            refine E3.out.mono ?_
            rintro e' w10 ⟨rfl, a10⟩
            have A10 := hideIt a10
            clear a10 E3 p0 p1 p2 p3
            have E1' := hideIt (E1.out _ A10.out)
            go_wp2_with fail
            refine E1'.out.mono ?_
            rintro e' w11 ⟨rfl, a11⟩
            have A11 := hideIt (A9.out.trans (A10.out.trans a11))
            clear a11 E1 E1' A10
            go_wp2
            go_roundw
            case rel => exact ⟨j + 1, by go_num, by omega, REL.out _ A11.out⟩
            case measure => simp [intOf]; omega
        · have gj : decide (0 < j) = true := decide_eq_true (by omega)
          have gj2 : decide ((0 : Int) < (j : Int)) = true := decide_eq_true (by omega)
          have gr : ((R : Int) == 0) = false := by simp; omega
          have gr2 : (R == 0) = false := by simp; omega
          have gr3 : decide (R = 0) = false := decide_eq_false (by omega)
          clear g1 g2
          go_quiet (fail)
          have A9 := hideIt (show After w8 (w8.drewN nq) from After.rfl.draws nq)
          generalize w8.drewN nq = w9 at *
          obtain ⟨p0, p1, p2, p3⟩ := HX8.out w9 A9.out
          rw [HPR.out.1] at p0
          rw [HG.out] at p1
          have E3 := hideIt (eq_one (c := ec) (I8.out.after A9.out) HF.out 3)
          have E1 := hideIt (fun W (a : After w9 W) => eq_one (c := ec) ((I8.out.after A9.out).after a) HF.out 1)
          have EV' := EV.out
          clear EV
          rcases EV' with ⟨hj2, -, hev⟩ | ⟨-, hv, -⟩ | ⟨hj2, -, hev⟩
          · rw [show decide (ev = [3]) = false by rw [hev]; decide] at E3
            rw [show decide (ev = [1]) = true by rw [hev]; decide] at E1
            have hj0 : ((j : Int) == 0) = true := by simp; omega
            clear hev hj2
            go_wp2_with fail
            refine E3.out.mono ?_
            rintro e' w10 ⟨rfl, a10⟩
            have A10 := hideIt a10
            clear a10 E3 p0 p1 p2 p3
            have E1' := hideIt (E1.out _ A10.out)
            go_wp2_with fail
            refine E1'.out.mono ?_
            rintro e' w11 ⟨rfl, a11⟩
            have A11 := hideIt (A9.out.trans (A10.out.trans a11))
            clear a11 E1 E1' A10
            go_wp2
            go_roundw
            case rel => exact ⟨j + 1, by go_num, by omega, REL.out _ A11.out⟩
            case measure => simp [intOf]; omega
          · cases hv
          · rw [show decide (ev = [3]) = false by rw [hev]; decide] at E3
            rw [show decide (ev = [1]) = false by rw [hev]; decide] at E1
            have hj0 : ((j : Int) == 0) = false := by simp; omega
            clear hev hj2
            go_wp2_with fail
            refine E3.out.mono ?_
            rintro e' w10 ⟨rfl, a10⟩
            have A10 := hideIt a10
            clear a10 E3 p0 p1 p2 p3
            have E1' := hideIt (E1.out _ A10.out)
            go_wp2_with fail
            refine E1'.out.mono ?_
            rintro e' w11 ⟨rfl, a11⟩
            have A11 := hideIt (A9.out.trans (A10.out.trans a11))
            clear a11 E1 E1' A10
            go_wp2
            go_roundw
            case rel => exact ⟨j + 1, by go_num, by omega, REL.out _ A11.out⟩
            case measure => simp [intOf]; omega
        · have gj : decide (0 < j) = true := decide_eq_true (by omega)
          have gj2 : decide ((0 : Int) < (j : Int)) = true := decide_eq_true (by omega)
          have gr : ((R : Int) == 0) = true := by simp; omega
          have gr2 : (R == 0) = true := by simp; omega
          have gr3 : decide (R = 0) = true := decide_eq_true (by omega)
          have hw : IntKind.i64.wrap ((P : Int) + (Q : Int)) = (P : Int) + (Q : Int) := IntWalk.i64_in _ (by omega)
          have gl : decide (P + Q ≤ 3) = false := decide_eq_false g3
          have gl2 : decide ((P : Int) + (Q : Int) ≤ 3) = false := decide_eq_false (by omega)
          clear g1 g2 g3
          go_quiet (fail)
          have A9 := hideIt (show After w8 (w8.drewN nq) from After.rfl.draws nq)
          generalize w8.drewN nq = w9 at *
          obtain ⟨p0, p1, p2, p3⟩ := HX8.out w9 A9.out
          rw [HPR.out.1] at p0
          rw [HG.out] at p1
          have E3 := hideIt (eq_one (c := ec) (I8.out.after A9.out) HF.out 3)
          have E1 := hideIt (fun W (a : After w9 W) => eq_one (c := ec) ((I8.out.after A9.out).after a) HF.out 1)
          have EV' := EV.out
          clear EV
          rcases EV' with ⟨hj2, -, hev⟩ | ⟨-, hv, -⟩ | ⟨hj2, -, hev⟩
          · rw [show decide (ev = [3]) = false by rw [hev]; decide] at E3
            rw [show decide (ev = [1]) = true by rw [hev]; decide] at E1
            have hj0 : ((j : Int) == 0) = true := by simp; omega
            clear hev hj2
            go_wp2_with fail
            refine E3.out.mono ?_
            rintro e' w10 ⟨rfl, a10⟩
            have A10 := hideIt a10
            clear a10 E3 p0 p1 p2 p3
            have E1' := hideIt (E1.out _ A10.out)
            go_wp2_with fail
            refine E1'.out.mono ?_
            rintro e' w11 ⟨rfl, a11⟩
            have A11 := hideIt (A9.out.trans (A10.out.trans a11))
            clear a11 E1 E1' A10
            go_wp2
            go_roundw
            case rel => exact ⟨j + 1, by go_num, by omega, REL.out _ A11.out⟩
            case measure => simp [intOf]; omega
          · cases hv
          · rw [show decide (ev = [3]) = false by rw [hev]; decide] at E3
            rw [show decide (ev = [1]) = false by rw [hev]; decide] at E1
            have hj0 : ((j : Int) == 0) = false := by simp; omega
            clear hev hj2
            go_wp2_with fail
            refine E3.out.mono ?_
            rintro e' w10 ⟨rfl, a10⟩
            have A10 := hideIt a10
            clear a10 E3 p0 p1 p2 p3
            have E1' := hideIt (E1.out _ A10.out)
            go_wp2_with fail
            refine E1'.out.mono ?_
            rintro e' w11 ⟨rfl, a11⟩
            have A11 := hideIt (A9.out.trans (A10.out.trans a11))
            clear a11 E1 E1' A10
            go_wp2
            go_roundw
            case rel => exact ⟨j + 1, by go_num, by omega, REL.out _ A11.out⟩
            case measure => simp [intOf]; omega
        · have gj : decide (0 < j) = true := decide_eq_true (by omega)
          have gj2 : decide ((0 : Int) < (j : Int)) = true := decide_eq_true (by omega)
          have gr : ((R : Int) == 0) = true := by simp; omega
          have gr2 : (R == 0) = true := by simp; omega
          have gr3 : decide (R = 0) = true := decide_eq_true (by omega)
          have hw : IntKind.i64.wrap ((P : Int) + (Q : Int)) = (P : Int) + (Q : Int) := IntWalk.i64_in _ (by omega)
          have gl : decide (P + Q ≤ 3) = true := decide_eq_true g3
          have gl2 : decide ((P : Int) + (Q : Int) ≤ 3) = true := decide_eq_true (by omega)
          clear g1 g2 g3
          go_quiet (fail)
          have A9 := hideIt (show After w8 (w8.drewN nq) from After.rfl.draws nq)
          generalize w8.drewN nq = w9 at *
          obtain ⟨p0, p1, p2, p3⟩ := HX8.out w9 A9.out
          rw [HPR.out.1] at p0
          rw [HG.out] at p1
          have E3 := hideIt (eq_one (c := ec) (I8.out.after A9.out) HF.out 3)
          have E1 := hideIt (fun W (a : After w9 W) => eq_one (c := ec) ((I8.out.after A9.out).after a) HF.out 1)
          have EV' := EV.out
          clear EV
          rcases EV' with ⟨-, hv, -⟩ | ⟨hj2, -, hev⟩ | ⟨-, hv, -⟩
          · cases hv
          · rw [show decide (ev = [3]) = true by rw [hev]; decide] at E3
            rw [show decide (ev = [1]) = false by rw [hev]; decide] at E1
            have hj0 : ((j : Int) == 0) = false := by simp; omega
            clear hev hj2
            go_wp2_with fail
            refine E3.out.mono ?_
            rintro e' w10 ⟨rfl, a10⟩
            have A10 := hideIt a10
            clear a10 E3 p0 p1 p2 p3
            have E1' := hideIt (E1.out _ A10.out)
            go_wp2_with fail
            refine E1'.out.mono ?_
            rintro e' w11 ⟨rfl, a11⟩
            have A11 := hideIt (A9.out.trans (A10.out.trans a11))
            clear a11 E1 E1' A10
            go_wp2
            go_roundw
            case rel => exact ⟨j + 1, by go_num, by omega, REL.out _ A11.out⟩
            case measure => simp [intOf]; omega
          · cases hv
    · have i1 : ¬ (j : Int) < 1 + (B : Int) := by omega
      go_wp2
      go_ret
      exact ⟨rfl, W3.out.trans WK.out.aft⟩
end Go.Proofs.Ythggkpmhcdmalaa
