/-
  RuleHolds: the walk.
-/
import Derived.Test.YthgmjeljjladhaaRuK
namespace Go.Proofs.Ythgmjeljjladhaa
open Go.RowKit
set_option maxRecDepth 8000
theorem okN_mono {x : Nd} {i n m : Int} (h : okN x i n = true) (hnm : n ≤ m) : okN x i m = true := by
  unfold okN idx at h ⊢
  by_cases h0 : x.op = 0
  · rw [if_pos h0] at h ⊢
    exact h
  rw [if_neg h0] at h ⊢
  by_cases h1 : x.op = 1 ∨ x.op = 2
  · rw [if_pos h1] at h ⊢
    simp only [Bool.and_eq_true, decide_eq_true_eq] at h ⊢; omega
  rw [if_neg h1] at h ⊢
  by_cases h3 : x.op = 3 ∨ x.op = 4 ∨ x.op = 5
  · rw [if_pos h3] at h ⊢
    simp only [Bool.and_eq_true, decide_eq_true_eq] at h ⊢; omega
  rw [if_neg h3] at h ⊢
  exact h
theorem okFrom_mono {n m : Int} (hnm : n ≤ m) : ∀ {L : List Nd} {k : Nat}, okFrom n k L = true → okFrom m k L = true
  | [], _, _ => rfl
  | x :: r, k, h => by
    unfold okFrom at h ⊢
    rw [Bool.and_eq_true] at h ⊢
    exact ⟨okN_mono h.1 hnm, okFrom_mono hnm h.2⟩
/-- A formula over some channels is one over eight. -/
theorem chk_eight {L : List Nd} {n : Int} (h : chk L n = 0) : chk L 8 = 0 := by
  obtain ⟨c1, c2, c3, c4, c5⟩ := chk_zero h
  unfold chk
  rw [if_neg (by omega), if_neg (by omega), if_neg (by omega), if_pos (show okAll L 8 = true from okFrom_mono c3 c5)]
theorem memA_ok {L : List Nd} {n : Int} (h : chk L n = 0) : (memA L).2 = 0 := by
  unfold memA
  rw [if_pos (chk_eight h)]
/-- What the statements are handed: nodes, channels, a trace. -/
structure Given (w : World) (al : Option Addr) (cl : Nat) (ac : Option Addr) (cc : Nat) (aT : Option Addr) (ct : Nat) (L : List Nd) (C : List Ch) (X : List Tr) : Prop where
  n1 : NRow w al L.length L
  n2 : al = none → L.length = 0 ∧ cl = 0
  c1 : CRow w ac C.length C
  c2 : ac = none → C.length = 0 ∧ cc = 0
  t1 : TRow w aT X.length X
  t2 : aT = none → X.length = 0 ∧ ct = 0
  t3 : X.length ≤ ct
  xb : X.length ≤ 140737488355328
theorem Given.after {w w' : World} {al : Option Addr} {cl : Nat} {ac : Option Addr} {cc : Nat} {aT : Option Addr} {ct : Nat} {L : List Nd} {C : List Ch} {X : List Tr} (h : Given w al cl ac cc aT ct L C X) (a : After w w') : Given w' al cl ac cc aT ct L C X := ⟨h.n1.after a, h.n2, h.c1.after a, h.c2, h.t1.after a, h.t2, h.t3, h.xb⟩
/-- A row's block lies ahead of what was made since. -/
theorem row_far {w : World} {x : Tr} (h : x.In w) {lo hi : Nat} (hlo : w.heap.size ≤ lo) {n : Nat} (hn : x.n = n) : ∀ y, x.a = some y → 0 < n → ¬ Rng lo hi y.block := fun y hy h0 hr => by
  obtain ⟨b', off', e', hlt⟩ := h.1.lt (by omega)
  rw [e'] at hy
  cases hy
  have h8 : lo ≤ b' := hr.1
  omega
set_option maxHeartbeats 4000000 in
theorem law_holds17 {L : List Nd} {C : List Ch} {X : List Tr} (w : World) (al : Option Addr) (cl : Nat) (ac : Option Addr) (cc : Nat) (aT : Option Addr) (ct : Nat) (h : Given w al cl ac cc aT ct L C X) :
    Calls Try.prog 4 #[.slice al L.length cl, .agg #[.slice ac C.length cc, .slice aT X.length ct]] w fun e w' => e = .returned (.bool true) ∧ After w w' := by
  obtain ⟨W1, hW1⟩ : ∃ W1, W1 = w.alloc (.cells #[.slice ac C.length cc, .slice aT X.length ct] 26) := ⟨_, rfl⟩
  have a1 : After w W1 := by rw [hW1]; exact After.rfl.alloc _
  have HB : Hid (∀ V, After W1 V → V.cell? ⟨w.heap.size, 0, none⟩ = some (.slice ac C.length cc) ∧ V.cell? ⟨w.heap.size, 1, none⟩ = some (.slice aT X.length ct)) := hideIt (fun V hV => by
    rw [hW1] at hV
    exact ⟨new_cell hV 0 rfl, new_cell hV 1 rfl⟩)
  have HW := hideIt (And.intro hW1 a1)
  have HH := hideIt h
  clear h hW1 a1
  go_enter Try.func4, Try.ntmps4
  go_wp2_with fail
  rw [← HW.out.1]
  refine (works_any _).mono ?_
  rintro e w2 ⟨rfl, a2⟩
  obtain ⟨d0, d1⟩ := HB.out _ a2
  have A2 := hideIt a2
  clear a2
  go_wp2_with fail
  refine (whole_any HH.out.xb w2 ac C.length cc aT ct (HH.out.after (HW.out.2.trans A2.out)).t1).mono ?_
  rintro e w3 ⟨⟨r, rfl, hr⟩, a3⟩
  have A3 := hideIt (A2.out.trans a3)
  clear a3 d0 d1
  cases r with
  | false =>
    clear hr
    go_wp2_with fail
    go_ret
    exact ⟨rfl, HW.out.2.trans A3.out⟩
  | true =>
    have HR := hideIt (hr rfl)
    clear hr
    obtain ⟨d0, d1⟩ := HB.out _ A3.out
    have G3 := hideIt (HH.out.after (HW.out.2.trans A3.out))
    by_cases hc : chk L (C.length : Int) = 0
    rotate_left
    · have hc' : (chk L (C.length : Int) != 0) = true := by simp [hc]
      have HN := hideIt (new_no w3 al L.length cl G3.out.n1 ac C.length cc G3.out.c1 hc)
      have HC := hideIt (fun V (hV : After w3 V) => check_any L V al L.length cl (G3.out.n1.after hV) (C.length : Int))
      clear hc
      generalize chk L (C.length : Int) = k at *
      go_wp2_with fail
      refine HN.out.mono ?_
      rintro e w4 ⟨rfl, a4⟩
      clear d0 d1
      obtain ⟨d0, d1⟩ := HB.out _ (A3.out.trans a4)
      have A4 := hideIt a4
      clear a4
      go_wp2_with fail
      refine (HC.out w4 A4.out).mono ?_
      rintro e w5 ⟨rfl, a5⟩
      go_wp2_with fail
      go_ret
      exact ⟨rfl, (HW.out.2.trans (A3.out.trans A4.out)).trans a5⟩
    · have HN := hideIt (run_new w3 al cl G3.out.n1 G3.out.n2 ac cc G3.out.c1 G3.out.c2 hc)
      have HC := hideIt (fun V (hV : After w3 V) => check_any L V al L.length cl (G3.out.n1.after hV) (C.length : Int))
      have HM := hideIt (fun V (hV : After w3 V) => memory_any L V al L.length cl (G3.out.n1.after hV))
      rw [hc] at HC
      rw [memA_ok hc] at HM
      have HK := hideIt hc
      clear hc
      have HWd := hideIt (fun V lo hi m T (r : Run V lo hi m L C T) => words_any r.mc r.pos)
      generalize (memA L).1 = wd at *
      go_wp2_with fail
      refine HN.out.mono ?_
      rintro e w4 ⟨m, rfl, r4, a4⟩
      have R4 := hideIt r4
      have A4 := hideIt a4
      clear d0 d1 r4 a4
      obtain ⟨d0, d1⟩ := HB.out _ (A3.out.trans A4.out)
      go_wp2_with fail
      refine (HC.out w4 A4.out).mono ?_
      rintro e w5 ⟨rfl, a5⟩
      have A5 := hideIt (A4.out.trans a5)
      have R5 := hideIt (R4.out.after a5)
      clear d0 d1 a5
      go_wp2_with fail
      refine (HM.out w5 A5.out).mono ?_
      rintro e w6 ⟨rfl, a6⟩
      have A6 := hideIt (A5.out.trans a6)
      have R6 := hideIt (R5.out.after a6)
      clear a6
      go_wp2_with fail
      refine (HWd.out w6 _ _ _ _ R6.out).mono ?_
      rintro e w7 ⟨rfl, a7⟩
      have A7 := hideIt (A6.out.trans a7)
      have R7 := hideIt (R6.out.after a7)
      clear a7 R4 A4 R5 A5 R6 A6 HN HC HM
      have hX' : (X.length : Int) ≤ 150 := by have := HR.out.2; omega
      go_wp2_with fail
      go_loopw [9] (fun i wr => ∃ j : Nat, j ≤ X.length ∧ i = .int .i64 (j : Int) ∧ Run wr w3.heap.size w4.heap.size m L C ((rdsOf X).take j) ∧ After w3 wr) (fun i _ => X.length - (intOf i).toNat)
      case atStart => exact ⟨0, Nat.zero_le _, rfl, R7.out, A7.out⟩
      case round =>
        clear R7 A7
        obtain ⟨j, hj, rfl, rr, aw⟩ := hrel
        obtain ⟨d0, d1⟩ := HB.out _ (A3.out.trans aw)
        by_cases hjn : j < X.length
        · have i1 : (j : Int) < (X.length : Int) := by omega
          obtain ⟨tb, toff, x, rfl, htb, hx, k0, kin⟩ := trow_at G3.out.t1 hjn
          have k0' := (aw.cell htb _).trans k0
          have hlt : tb < wr.heap.size := Nat.lt_of_lt_of_le htb aw.size
          have hxn := HR.out.1 x (List.mem_of_getElem? hx)
          have hrow : DRow wr x.a C.length x.l := by rw [← hxn]; exact (kin.after aw).1
          have HQ := hideIt (rr.step (cr := x.d) hrow (row_far kin (Nat.le_refl _) hxn))
          have hl : ((rdsOf X).take j).length = j := by rw [List.length_take, rdsOf_length]; omega
          have hxr : (rdsOf X)[j]? = some x.l := by unfold rdsOf; rw [List.getElem?_map, hx]; rfl
          rw [hl, ← take_snoc hxr, val_take] at HQ
          have hok := hld_ok HK.out (T := rdsOf X) (fun l hl => by
            obtain ⟨y, hy, rfl⟩ := List.mem_map.1 hl
            rw [(G3.out.t1.2 y hy).1.1]
            exact HR.out.1 y hy) (j := j) (by rw [rdsOf_length]; exact hjn)
          have HD := hideIt (fun V (hV : After w3 V) => holds_any (L := L) (C := C) (X := X) V al cl ac cc (some ⟨tb, toff, none⟩) ct (G3.out.n1.after hV) (G3.out.c1.after hV) (G3.out.t1.after hV) (by have := HR.out.2; omega) (j : Int))
          rw [hok] at HD
          simp only at HD
          have HA := hideIt aw
          rw [hxn] at k0'
          clear aw rr hx kin hrow hl hxr k0 htb hok hxn
          generalize val L C (rdsOf X) (L.length - 1) j = VJ at *
          go_wp2_with fail
          refine HQ.out.mono ?_
          rintro e w8 ⟨rfl, r8, b8⟩
          have a8 : After w3 w8 := HA.out.then b8 (fun k hk e => by have := e.1; omega)
          clear d0 d1 k0'
          obtain ⟨d0, d1⟩ := HB.out _ (A3.out.trans a8)
          have H8 := hideIt (And.intro r8 a8)
          clear r8 b8 a8
          go_wp2_with fail
          refine (HD.out w8 H8.out.2).mono ?_
          rintro e w9 ⟨rfl, a9⟩
          have H9 := hideIt (And.intro (H8.out.1.after a9) (H8.out.2.trans a9))
          clear a9 d0 d1
          go_wp2_with fail
          go_roundw
          case rel => exact ⟨j + 1, by omega, by go_num, H9.out.1, H9.out.2⟩
          case measure => simp [intOf]; omega
        · have i1 : ¬ (j : Int) < (X.length : Int) := by omega
          have H8 := hideIt (And.intro rr aw)
          clear rr aw
          go_wp2_with fail
          refine (HWd.out wr _ _ _ _ H8.out.1).mono ?_
          rintro e w9 ⟨rfl, a9⟩
          go_wp2_with fail
          go_ret
          exact ⟨rfl, ((HW.out.2.trans A3.out).trans H8.out.2).trans a9⟩
end Go.Proofs.Ythgmjeljjladhaa
