/-
  FilterPlain walked.
-/
import Derived.Test.YtgapnimicaopcaaLawForgets
import Derived.Test.YtgapnimicaopcaaFiO
namespace Go.Proofs.Ytgapnimicaopcaa
open Go.RowKit
set_option maxRecDepth 8000
theorem bt_zero : broughtTo 0 5 = 0 := rfl
theorem mayC_plain (st : Int) : mayC 0 0 st = ⟨0, 0, 1 + broughtTo st 40⟩ := rfl
/-- What may has left, stored into a new block. -/
theorem mde_new {w0 w1 w2 : World} {c : Cf} {v : Value} {xs : List Stp} (a1 : After w0 w1) (own : OSts w2 w1.heap.size v xs) (hall : ∀ x ∈ xs, x.Own w2 w1.heap.size) (_hf : Fine xs) (_h60 : xs.length ≤ 60) (_h8 : ∀ x ∈ xs, x.l.length ≤ 8) (a2 : After w1 w2) {W : World} (hW : W = w2.alloc (.cells #[.int .i64 c.k, .int .i64 c.n, .int .i64 c.st] 23)) :
    W.heap[w2.heap.size]? = some (.cells #[.int .i64 c.k, .int .i64 c.n, .int .i64 c.st] 23 (0, 0)) ∧ OSts W w1.heap.size v xs ∧ (∀ x ∈ xs, x.Own W w1.heap.size) ∧ After w0 W := by
  subst hW
  exact ⟨heap_alloc_new w2 _, own_after own (After.rfl.alloc _), fun x hx => (hall x hx).after (After.rfl.alloc _), (a1.trans a2).alloc _⟩
/-- run of a filter that is as plain as another one gives what the other gives. -/
theorem run_plain (w : World) (c c' : Cf) (hP : Pl c) (hP' : Pl c') (hs : c.st = c'.st) (hc : c'.Ok) (a : Option Addr) (n d : Nat) (xs : List Stp) (hr : SRow w a n xs) (hn : n ≤ 100) (hf : Fine xs) (hl : xs.length = n) (k l s : Int) (ek : k = c'.k) (el : l = c'.n) (es : s = c'.st) :
    Calls Try.prog 10 #[.agg #[.int .i64 k, .int .i64 l, .int .i64 s], .slice a n d] w fun e w' => ∃ oa oc, e = .returned (.tuple #[.slice oa n oc, .bool true]) ∧ DRow w' oa n (Ts.new.outs c xs) ∧ After w w' := by
  subst ek el es
  rw [plain_outs hP hP' hs]
  refine (run_ok w c' hc a n d xs hr hn hf).mono ?_
  rintro e w' ⟨v, rfl, od, aw⟩
  obtain ⟨oa, oc, rfl, dr⟩ := own_drow od
  rw [Ts.outs_length, hl] at dr ⊢
  exact ⟨oa, oc, rfl, dr, aw⟩
set_option maxHeartbeats 8000000 in
theorem law_plain (w : World) (st : Int) (hst : -9223372036854775808 ≤ st ∧ st ≤ 9223372036854775807) (a : Option Addr) (m d : Nat) (zs : List Stp) (hr : SRow w a m zs) (hb : ∀ x ∈ zs, -9223372036854775808 ≤ x.tick ∧ x.tick ≤ 9223372036854775807) :
    Calls Try.prog 5 #[.int .i64 st, .slice a m d] w fun e w' => e = .returned (.bool true) ∧ After w w' := by
  have HMay := hideIt (fun W (aW : After w W) => may_any W 0 0 st (by omega) (by omega) hst a m d zs (hr.after aW) hb)
  have hc := mayC_ok 0 0 st
  rw [mayC_plain] at HMay hc
  have q40 := broughtTo_lt st (m := 40) (by omega)
  generalize broughtTo st 40 = T at *
  obtain ⟨c, hce⟩ : ∃ c : Cf, c = ⟨0, 0, 1 + T⟩ := ⟨_, rfl⟩
  rw [← hce] at HMay hc
  have HC := hideIt (And.intro hc hce)
  have T1 : (T : Int) < 40 := by omega
  clear hst hr hb hc hce q40
  go_enter Try.func5, Try.ntmps5
  go_wp2_with fail
  refine (works_any _).mono ?_
  rintro e w1 ⟨rfl, a1⟩
  have HB := hideIt a1
  clear a1
  go_wp2_with fail
  refine (HMay.out _ HB.out).mono ?_
  rintro e w2 ⟨v, xs, rfl, own, hall, hf, h60, h8, a2⟩
  have HM0 := hideIt (And.intro own (And.intro hall (And.intro hf (And.intro h60 (And.intro h8 a2)))))
  obtain ⟨sa, sc, rfl, _, _, _⟩ := own_srow own (fun x hx => (hall x hx).in_)
  obtain ⟨N, hN⟩ : ∃ N, xs.length = N := ⟨_, rfl⟩
  rw [hN]
  have HN := hideIt hN
  have hN60 : (N : Int) ≤ 60 := by omega
  clear own hall hf h60 h8 a2 HMay hN
  go_wp2_with fail
  generalize hW : World.alloc w2 _ = w3
  obtain ⟨m1, m2, m3, m4⟩ := mde_new HB.out HM0.out.1 HM0.out.2.1 HM0.out.2.2.1 HM0.out.2.2.2.1 HM0.out.2.2.2.2.1 HM0.out.2.2.2.2.2 hW.symm
  obtain ⟨sa', sc', e', srow, _, _⟩ := own_srow m2 (fun x hx => (m3 x hx).in_)
  cases e'
  rw [HN.out] at srow
  have hpl : Pl c := by rw [HC.out.2]; exact .inl ⟨rfl, rfl⟩
  have hs1 : 1 ≤ c.st ∧ c.st ≤ 10000 := ⟨HC.out.1.st1, HC.out.1.st2⟩
  have HRunP : Hid (∀ k l : Nat, (k = 1 ∧ l = 1 ∨ k = 2 ∧ l = 1 ∨ k = 3 ∧ l = 1000) → ∀ W, After w3 W → Calls Try.prog 10 #[.agg #[.int .i64 (k : Int), .int .i64 (l : Int), .int .i64 (c.st : Int)], .slice sa N sc] W fun e w' => ∃ oa oc, e = .returned (.tuple #[.slice oa N oc, .bool true]) ∧ DRow w' oa N (Ts.new.outs c xs) ∧ After W w') :=
    hideIt (fun k l h W aW => run_plain W c ⟨k, l, c.st⟩ hpl (.inr h) rfl ⟨by show k = 0 ∧ l = 0 ∨ k = 1 ∧ 1 ≤ l ∧ l ≤ 15 ∧ l % 2 = 1 ∨ k = 2 ∧ 1 ≤ l ∧ l ≤ 15 ∨ k = 3 ∧ 1 ≤ l ∧ l ≤ 1000 ∨ k = 4 ∧ 2 ≤ l ∧ l ≤ 8; omega, hs1.1, hs1.2⟩ sa N sc xs (srow.after aW) (by omega) HM0.out.2.2.1 HN.out _ _ _ rfl rfl rfl)
  clear hpl hs1
  have HRunA := hideIt (fun (c' : Cf) (h : c'.Ok) W (aW : After w3 W) => run_ok W c' h sa N sc xs (srow.after aW) (by omega) HM0.out.2.2.1)
  have HM := hideIt (And.intro m1 (And.intro srow m4))
  have HR1 := hideIt (HRunA.out c HC.out.1 w3 After.rfl)
  have g2' := blk_cell m1 (i := 2) rfl
  have hlg := blk_lt m1
  clear hW m1 m2 m3 m4 srow
  refine HR1.out.mono ?_
  rintro e w4 ⟨v4, rfl, od, a4⟩
  have hol : (Ts.new.outs c xs).length = N := by rw [Ts.outs_length]; exact HN.out
  obtain ⟨oa, oc, rfl, drow⟩ := own_drow od
  rw [hol] at drow
  rw [hol]
  have HD := hideIt (And.intro drow a4)
  clear od drow a4 hol HR1
  go_wp2_with fail
  go_loopw [8, 9] (fun la i wr => ∃ j : Nat, j ≤ N ∧ i = .int .i64 j ∧ la = .int .i64 (lastS 0 (xs.take j)) ∧ After w4 wr) (fun _ i _ => N - (intOf i).toNat)
  case atStart => exact ⟨0, Nat.zero_le _, rfl, rfl, After.rfl⟩
  case round =>
    obtain ⟨j, hj, rfl, rfl, aw⟩ := hrel
    by_cases hjn : j < N
    · have i1 : (j : Int) < (N : Int) := by omega
      obtain ⟨b1, off1, R, rfl, hb1, hRx, k0, k1⟩ := HD.out.1.2 j hjn
      obtain ⟨b2, off2, z, hsa, hb2, hz, l0, l1, hin⟩ := HM.out.2.1.at_ hjn
      cases hsa
      have aw3 := HD.out.2.trans aw
      have cL := (aw3.cell hb2 _).trans l1
      have hb2' : b2 < wr.heap.size := Nat.lt_of_lt_of_le hb2 aw3.size
      have hRe : (Ts.new.run c (xs.take j)).read c z.tick z.l = R := by
        have := Ts.outs_at c Ts.new hz
        rw [this] at hRx
        injection hRx
      have hck : c.k = 0 := by rw [HC.out.2]
      have hpr : R.s = 1 ∨ R.s = 2 → R.v = lastv (lastS 0 (xs.take j)) z.l := fun h => by
        rw [← hRe] at h ⊢
        rw [← lastS_succ hz]
        exact plain_read hck hz h
      have hls := lastS_succ (a := 0) hz
      have HZ := hideIt (And.intro hz (And.intro hin (And.intro hpr (And.intro hls (And.intro aw (And.intro aw3 (And.intro hb2 (And.intro l1 (And.intro hb1 (And.intro k0 k1))))))))))
      have hpz : (z.n : Int) ≤ 64 := by have := HM0.out.2.2.1.few _ _ hz; have := hin.1.1; omega
      generalize lastS 0 (xs.take j) = A at *
      clear hRx l0 l1 hin k0 k1 aw aw3 hRe hpr hls hz hck
      go_wp2_with fail
      go_loopw [8, 10] (fun la jj W => ∃ p : Nat, p ≤ z.n ∧ jj = .int .i64 p ∧ la = .int .i64 (lastv A (z.l.take p)) ∧ After w4 W) (fun _ jj _ => z.n - (intOf jj).toNat)
      case atStart => exact ⟨0, Nat.zero_le _, rfl, rfl, HZ.out.2.2.2.2.1⟩
      case round =>
        obtain ⟨p, hp, rfl, rfl, awp⟩ := hrel
        have aw3 := HD.out.2.trans awp
        have cL' := (aw3.cell HZ.out.2.2.2.2.2.2.1 _).trans HZ.out.2.2.2.2.2.2.2.1
        have hb6 : b2 < wr.heap.size := Nat.lt_of_lt_of_le HZ.out.2.2.2.2.2.2.1 aw3.size
        by_cases hpn : p < z.n
        · have n2 : (p : Int) < (z.n : Int) := by omega
          obtain ⟨b7, off7, r, hza, hb7, hr7, m0, m1, m2⟩ := HZ.out.2.1.1.at_ hpn
          rw [hza] at cL'
          have m0' := (aw3.cell hb7 _).trans m0
          have m1' := (aw3.cell hb7 _).trans m1
          have m2' := (aw3.cell hb7 _).trans m2
          have hb8 : b7 < wr.heap.size := Nat.lt_of_lt_of_le hb7 aw3.size
          have hsu := lastv_succ (a := A) hr7
          have HFx := hideIt (fun W => fixed_any r W)
          have HP := hideIt (And.intro hsu awp)
          generalize lastv A (z.l.take p) = B at *
          clear awp aw3 m0 m1 m2 hr7 hsu
          unfold lastR at HP
          rcases hnum : r.num with _ | _
          · rw [hnum] at HFx HP
            simp only [if_false, Bool.false_eq_true] at HFx HP
            clear hnum
            go_wp2_with (go_at_call 12; refine (HFx.out _).mono ?_; rintro e w5 ⟨rfl, a5⟩)
            go_roundw
            case rel => exact ⟨p + 1, by omega, by go_num, by rw [HP.out.1], HP.out.2.trans a5⟩
            case measure => simp [intOf]; omega
          · rw [hnum] at HFx HP
            simp only [if_true] at HFx HP
            clear hnum
            go_wp2_with (go_at_call 12; refine (HFx.out _).mono ?_; rintro e w5 ⟨rfl, a5⟩)
            go_roundw
            case rel => exact ⟨p + 1, by omega, by go_num, by rw [HP.out.1], HP.out.2.trans a5⟩
            case measure => simp [intOf]; omega
        · have n2 : ¬ (p : Int) < (z.n : Int) := by omega
          have hpe : p = z.n := by omega
          have hle : lastv A (z.l.take p) = lastv A z.l := by rw [hpe, ← HZ.out.2.1.1.1, List.take_length]
          rw [hle]
          have x0 := (awp.cell HZ.out.2.2.2.2.2.2.2.2.1 _).trans HZ.out.2.2.2.2.2.2.2.2.2.1
          have x1 := (awp.cell HZ.out.2.2.2.2.2.2.2.2.1 _).trans HZ.out.2.2.2.2.2.2.2.2.2.2
          have hb9 : b1 < wr.heap.size := Nat.lt_of_lt_of_le HZ.out.2.2.2.2.2.2.2.2.1 awp.size
          have AWP := hideIt awp
          have hpr := HZ.out.2.2.1
          clear awp aw3 hle hpe
          obtain ⟨B, hB⟩ : ∃ B, lastv A z.l = B := ⟨_, rfl⟩
          rw [hB] at hpr
          rw [hB]
          have HBB := hideIt hB
          clear hB
          obtain ⟨Rs, Rv⟩ := R
          dsimp only at hpr x0 x1
          by_cases h1 : Rs = 1
          · subst h1
            have hv := hpr (.inl rfl)
            subst hv
            clear hpr
            go_wp2_with fail
            go_roundw
            case rel => exact ⟨j + 1, by omega, by go_num, by rw [HZ.out.2.2.2.1, HBB.out], AWP.out⟩
            case measure => simp [intOf]; omega
          · by_cases h2 : Rs = 2
            · subst h2
              have hv := hpr (.inr rfl)
              subst hv
              clear hpr h1
              go_wp2_with fail
              go_roundw
              case rel => exact ⟨j + 1, by omega, by go_num, by rw [HZ.out.2.2.2.1, HBB.out], AWP.out⟩
              case measure => simp [intOf]; omega
            · have e1 : (Rs == 1) = false := by simp [h1]
              have e2 : (Rs == 2) = false := by simp [h2]
              clear hpr h1 h2
              go_wp2_with fail
              go_roundw
              case rel => exact ⟨j + 1, by omega, by go_num, by rw [HZ.out.2.2.2.1, HBB.out], AWP.out⟩
              case measure => simp [intOf]; omega
    · have i1 : ¬ (j : Int) < (N : Int) := by omega
      have AWP := hideIt aw
      generalize lastS 0 (xs.take j) = A at *
      clear aw
      go_wp2_with fail
      generalize hW5 : World.alloc wr _ = w5
      have hb5 := (show w5.heap[wr.heap.size]? = some _ by rw [← hW5]; exact heap_alloc_new wr _)
      have a5 : After w3 w5 := by rw [← hW5]; exact (HD.out.2.trans AWP.out).alloc _
      have HW5 := hideIt (And.intro hb5 (And.intro a5 (show After w4 w5 by rw [← hW5]; exact AWP.out.alloc _)))
      clear hW5 hb5 a5 AWP
      go_loopw [93] (fun ii W => ∃ q : Nat, q ≤ 3 ∧ ii = .int .i64 q ∧ After w5 W) (fun ii _ => 3 - (intOf ii).toNat)
      case atStart => exact ⟨0, by omega, rfl, After.rfl⟩
      case round =>
        rename_i g3 _
        obtain ⟨q, hq, rfl, aw⟩ := hrel
        have hc5 := old_blk aw HW5.out.1
        have c0 := blk_cell hc5 (i := 0) rfl
        have c1 := blk_cell hc5 (i := 1) rfl
        have c2 := blk_cell hc5 (i := 2) rfl
        have c3 := blk_cell hc5 (i := 3) rfl
        have c4 := blk_cell hc5 (i := 4) rfl
        have c5 := blk_cell hc5 (i := 5) rfl
        have hlt5 := blk_lt hc5
        have hcf := blk_cell (old_blk (HW5.out.2.1.trans aw) HM.out.1) (i := 2) rfl
        have hltf := blk_lt (old_blk (HW5.out.2.1.trans aw) HM.out.1)
        have AW := hideIt aw
        clear hc5 aw
        by_cases hq3 : q < 3
        · have HP1 : Hid (∀ W, After w3 W → Calls Try.prog 10 #[.agg #[.int .i64 1, .int .i64 1, .int .i64 (c.st : Int)], .slice sa N sc] W fun e w' => ∃ oa oc, e = .returned (.tuple #[.slice oa N oc, .bool true]) ∧ DRow w' oa N (Ts.new.outs c xs) ∧ After W w') := hideIt (HRunP.out 1 1 (by omega))
          have HP2 : Hid (∀ W, After w3 W → Calls Try.prog 10 #[.agg #[.int .i64 2, .int .i64 1, .int .i64 (c.st : Int)], .slice sa N sc] W fun e w' => ∃ oa oc, e = .returned (.tuple #[.slice oa N oc, .bool true]) ∧ DRow w' oa N (Ts.new.outs c xs) ∧ After W w') := hideIt (HRunP.out 2 1 (by omega))
          have HP3 : Hid (∀ W, After w3 W → Calls Try.prog 10 #[.agg #[.int .i64 3, .int .i64 1000, .int .i64 (c.st : Int)], .slice sa N sc] W fun e w' => ∃ oa oc, e = .returned (.tuple #[.slice oa N oc, .bool true]) ∧ DRow w' oa N (Ts.new.outs c xs) ∧ After W w') := hideIt (HRunP.out 3 1000 (by omega))
          have AW0 := hideIt ((HW5.out.2.1.trans AW.out))
          rcases (by omega : q = 0 ∨ q = 1 ∨ q = 2) with rfl | rfl | rfl
          · go_wp2_with fail
            refine (HP1.out _ (AW0.out.alloc _)).mono ?_
            rintro e w6 ⟨oa6, oc6, rfl, drow6, a6⟩
            have a6' : After w4 w6 := (HW5.out.2.2.trans (AW.out.alloc _)).trans a6
            have b6 : After w5 w6 := (AW.out.alloc _).trans a6
            have HD6 := hideIt (And.intro drow6 (And.intro a6' b6))
            clear drow6 a6 a6' b6 c0 c1 c2 c3 c4 c5 hcf hltf hlt5
            go_wp2_with fail
            go_loopw [17] (fun jj W => ∃ p : Nat, p ≤ N ∧ jj = .int .i64 p ∧ After w6 W) (fun jj _ => N - (intOf jj).toNat)
            case atStart => exact ⟨0, Nat.zero_le _, rfl, After.rfl⟩
            case round =>
              obtain ⟨p, hp, rfl, awp⟩ := hrel
              by_cases hpn : p < N
              · have n2 : (p : Int) < (N : Int) := by omega
                obtain ⟨b1, off1, R, rfl, hb1, hRx, k0, k1⟩ := HD.out.1.2 p hpn
                obtain ⟨b9, off9, R9, rfl, hb9, hRx9, m0, m1⟩ := HD6.out.1.2 p hpn
                have hrr : R = R9 := by rw [hRx] at hRx9; injection hRx9
                subst hrr
                have aw1 := HD6.out.2.1.trans awp
                have y0 := (aw1.cell hb1 _).trans k0
                have y1 := (aw1.cell hb1 _).trans k1
                have x0 := (awp.cell hb9 _).trans m0
                have x1 := (awp.cell hb9 _).trans m1
                have z1 : b1 < wr.heap.size := Nat.lt_of_lt_of_le hb1 aw1.size
                have z9 : b9 < wr.heap.size := Nat.lt_of_lt_of_le hb9 awp.size
                have hnq := fun W => neqR R.s R.v W
                have AWP := hideIt awp
                clear k0 k1 m0 m1 awp aw1 hRx hRx9
                go_wp2_with fail
                go_quiet (fail)
                go_wp2_with fail
                go_roundw
                case rel => exact ⟨p + 1, by omega, by go_num, AWP.out.draws _⟩
                case measure => simp [intOf]; omega
              · have n2 : ¬ (p : Int) < (N : Int) := by omega
                have AWP := hideIt awp
                clear awp
                go_wp2_with fail
                go_roundw
                case rel => exact ⟨1, by omega, rfl, HD6.out.2.2.trans AWP.out⟩
                case measure => simp [intOf]
          · go_wp2_with fail
            refine (HP2.out _ (AW0.out.alloc _)).mono ?_
            rintro e w6 ⟨oa6, oc6, rfl, drow6, a6⟩
            have a6' : After w4 w6 := (HW5.out.2.2.trans (AW.out.alloc _)).trans a6
            have b6 : After w5 w6 := (AW.out.alloc _).trans a6
            have HD6 := hideIt (And.intro drow6 (And.intro a6' b6))
            clear drow6 a6 a6' b6 c0 c1 c2 c3 c4 c5 hcf hltf hlt5
            go_wp2_with fail
            go_loopw [17] (fun jj W => ∃ p : Nat, p ≤ N ∧ jj = .int .i64 p ∧ After w6 W) (fun jj _ => N - (intOf jj).toNat)
            case atStart => exact ⟨0, Nat.zero_le _, rfl, After.rfl⟩
            case round =>
              obtain ⟨p, hp, rfl, awp⟩ := hrel
              by_cases hpn : p < N
              · have n2 : (p : Int) < (N : Int) := by omega
                obtain ⟨b1, off1, R, rfl, hb1, hRx, k0, k1⟩ := HD.out.1.2 p hpn
                obtain ⟨b9, off9, R9, rfl, hb9, hRx9, m0, m1⟩ := HD6.out.1.2 p hpn
                have hrr : R = R9 := by rw [hRx] at hRx9; injection hRx9
                subst hrr
                have aw1 := HD6.out.2.1.trans awp
                have y0 := (aw1.cell hb1 _).trans k0
                have y1 := (aw1.cell hb1 _).trans k1
                have x0 := (awp.cell hb9 _).trans m0
                have x1 := (awp.cell hb9 _).trans m1
                have z1 : b1 < wr.heap.size := Nat.lt_of_lt_of_le hb1 aw1.size
                have z9 : b9 < wr.heap.size := Nat.lt_of_lt_of_le hb9 awp.size
                have hnq := fun W => neqR R.s R.v W
                have AWP := hideIt awp
                clear k0 k1 m0 m1 awp aw1 hRx hRx9
                go_wp2_with fail
                go_quiet (fail)
                go_wp2_with fail
                go_roundw
                case rel => exact ⟨p + 1, by omega, by go_num, AWP.out.draws _⟩
                case measure => simp [intOf]; omega
              · have n2 : ¬ (p : Int) < (N : Int) := by omega
                have AWP := hideIt awp
                clear awp
                go_wp2_with fail
                go_roundw
                case rel => exact ⟨2, by omega, rfl, HD6.out.2.2.trans AWP.out⟩
                case measure => simp [intOf]
          · go_wp2_with fail
            refine (HP3.out _ (AW0.out.alloc _)).mono ?_
            rintro e w6 ⟨oa6, oc6, rfl, drow6, a6⟩
            have a6' : After w4 w6 := (HW5.out.2.2.trans (AW.out.alloc _)).trans a6
            have b6 : After w5 w6 := (AW.out.alloc _).trans a6
            have HD6 := hideIt (And.intro drow6 (And.intro a6' b6))
            clear drow6 a6 a6' b6 c0 c1 c2 c3 c4 c5 hcf hltf hlt5
            go_wp2_with fail
            go_loopw [17] (fun jj W => ∃ p : Nat, p ≤ N ∧ jj = .int .i64 p ∧ After w6 W) (fun jj _ => N - (intOf jj).toNat)
            case atStart => exact ⟨0, Nat.zero_le _, rfl, After.rfl⟩
            case round =>
              obtain ⟨p, hp, rfl, awp⟩ := hrel
              by_cases hpn : p < N
              · have n2 : (p : Int) < (N : Int) := by omega
                obtain ⟨b1, off1, R, rfl, hb1, hRx, k0, k1⟩ := HD.out.1.2 p hpn
                obtain ⟨b9, off9, R9, rfl, hb9, hRx9, m0, m1⟩ := HD6.out.1.2 p hpn
                have hrr : R = R9 := by rw [hRx] at hRx9; injection hRx9
                subst hrr
                have aw1 := HD6.out.2.1.trans awp
                have y0 := (aw1.cell hb1 _).trans k0
                have y1 := (aw1.cell hb1 _).trans k1
                have x0 := (awp.cell hb9 _).trans m0
                have x1 := (awp.cell hb9 _).trans m1
                have z1 : b1 < wr.heap.size := Nat.lt_of_lt_of_le hb1 aw1.size
                have z9 : b9 < wr.heap.size := Nat.lt_of_lt_of_le hb9 awp.size
                have hnq := fun W => neqR R.s R.v W
                have AWP := hideIt awp
                clear k0 k1 m0 m1 awp aw1 hRx hRx9
                go_wp2_with fail
                go_quiet (fail)
                go_wp2_with fail
                go_roundw
                case rel => exact ⟨p + 1, by omega, by go_num, AWP.out.draws _⟩
                case measure => simp [intOf]; omega
              · have n2 : ¬ (p : Int) < (N : Int) := by omega
                have AWP := hideIt awp
                clear awp
                go_wp2_with fail
                go_roundw
                case rel => exact ⟨3, by omega, rfl, HD6.out.2.2.trans AWP.out⟩
                case measure => simp [intOf]
        · have hq3' : q = 3 := by omega
          subst hq3'
          go_wp2_with fail
          go_ret
          exact ⟨rfl, (HM.out.2.2.trans HW5.out.2.1).trans AW.out⟩
end Go.Proofs.Ytgapnimicaopcaa
