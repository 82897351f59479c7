/-
  RuleRefused: the walk.
-/
import Derived.Test.YthgmjeljjladhaaLawHolds17
import Derived.Test.YthgmjeljjladhaaRuT
namespace Go.Proofs.Ythgmjeljjladhaa
open Go.RowKit
set_option maxRecDepth 8000
theorem one_ck : chk [Nd.none] (([] : List Ch).length : Int) = 0 := by decide
theorem one_val (T : List (List Rd)) (t : Nat) : val [Nd.none] [] T (([Nd.none] : List Nd).length - 1) t = true := by
  rw [val_eq (n := 0) (x := Nd.none) (by decide) [] T rfl]
  simp [stepv, Nd.none]
/-- The machine of the formula that always holds. -/
theorem one_new (w : World) : Calls Try.prog 10 #[.slice (some ⟨w.heap.size, 0, none⟩) 1 1, .slice none 0 0] (w.alloc (.cells #[.int .i64 0, .int .i64 0, .int .i64 0, .int .i64 0] 38)) fun e w' => ∃ m : Mp, e = .returned (.tuple #[Ptr m.p, .int .i64 0]) ∧ Run w' (w.heap.size + 1) w'.heap.size m [Nd.none] [] [] ∧ After w w' := by
  have h := run_new (L := [Nd.none]) (C := []) (w.alloc (.cells #[.int .i64 0, .int .i64 0, .int .i64 0, .int .i64 0] 38)) (some ⟨w.heap.size, 0, none⟩) 1 (lit_row (heap_alloc_new w _) rfl rfl) (fun h => by cases h) none 0 (GRow.nil chE _ _) (fun _ => ⟨rfl, rfl⟩) one_ck
  refine h.mono ?_
  rintro e w' ⟨m, rfl, r, a⟩
  rw [size_alloc] at r
  exact ⟨m, rfl, r, (After.rfl.alloc _).trans a⟩
theorem one_step {w : World} {lo hi : Nat} {m : Mp} {T : List (List Rd)} (r : Run w lo hi m [Nd.none] [] T) : Calls Try.prog 15 #[Ptr m.p, .slice none 0 0] w fun e w' => e = .returned (.tuple #[.bool true, .int .i64 0]) ∧ Run w' lo hi m [Nd.none] [] (T ++ [[]]) ∧ But (Rng lo hi) w w' := by
  have h := r.step (ar := none) (cr := 0) (R := []) (GRow.nil rdE _ _) (fun x hx => by cases hx)
  rw [one_val] at h
  exact h
set_option maxHeartbeats 1000000 in
theorem law_refused17 {L : List Nd} {C : List Ch} {X : List Tr} (w : World) (al : Option Addr) (cl : Nat) (ac : Option Addr) (cc : Nat) (aT : Option Addr) (ct : Nat) (h : Given w al cl ac cc aT ct L C X) (ao : Option Addr) (no co : Nat) (Y : List Rd) (ho : DRow w ao no Y) :
    Calls Try.prog 5 #[.slice al L.length cl, .agg #[.slice ac C.length cc, .slice aT X.length ct], .slice ao no co] w fun e w' => e = .returned (.bool true) ∧ After w w' := by
  obtain ⟨W1, hW1⟩ : ∃ W1, W1 = w.alloc (.cells #[.slice ac C.length cc, .slice aT X.length ct] 26) := ⟨_, rfl⟩
  have a1 : After w W1 := by rw [hW1]; exact After.rfl.alloc _
  have HB : Hid (∀ V, After W1 V → V.cell? ⟨w.heap.size, 0, none⟩ = some (.slice ac C.length cc) ∧ V.cell? ⟨w.heap.size, 1, none⟩ = some (.slice aT X.length ct)) := hideIt (fun V hV => by
    rw [hW1] at hV
    exact ⟨new_cell hV 0 rfl, new_cell hV 1 rfl⟩)
  have HW := hideIt (And.intro hW1 a1)
  have HH := hideIt (And.intro h ho)
  clear h hW1 a1 ho
  go_enter Try.func5, Try.ntmps5
  go_wp2_with fail
  rw [← HW.out.1]
  refine (works_any _).mono ?_
  rintro e w2 ⟨rfl, a2⟩
  obtain ⟨d0, d1⟩ := HB.out _ a2
  have A2 := hideIt a2
  clear a2
  go_wp2_with fail
  refine (whole_any HH.out.1.xb w2 ac C.length cc aT ct (HH.out.1.after (HW.out.2.trans A2.out)).t1).mono ?_
  rintro e w3 ⟨⟨r, rfl, hr⟩, a3⟩
  have A3 := hideIt (A2.out.trans a3)
  clear a3 d0 d1
  cases r with
  | false =>
    clear hr
    go_wp2_with fail
    go_ret
    exact ⟨rfl, HW.out.2.trans A3.out⟩
  | true =>
    have HR := hideIt (hr rfl)
    clear hr
    obtain ⟨d0, d1⟩ := HB.out _ A3.out
    have G3 := hideIt (HH.out.1.after (HW.out.2.trans A3.out))
    by_cases hc : chk L (C.length : Int) = 0
    rotate_left
    · have hc' : (chk L (C.length : Int) != 0) = true := by simp [hc]
      have HS := hideIt (steps_no w3 al L.length cl G3.out.n1 ac C.length cc G3.out.c1 (.slice aT X.length ct) hc ⟨_, _, _, rfl⟩)
      have HN := hideIt (fun V (hV : After w3 V) => new_no V al L.length cl (G3.out.n1.after hV) ac C.length cc (G3.out.c1.after hV) hc)
      clear hc
      generalize chk L (C.length : Int) = k at *
      go_wp2_with fail
      refine HS.out.mono ?_
      rintro e w4 ⟨rfl, a4⟩
      clear d0 d1
      obtain ⟨d0, d1⟩ := HB.out _ (A3.out.trans a4)
      have A4 := hideIt a4
      clear a4
      go_wp2_with fail
      refine (HN.out w4 A4.out).mono ?_
      rintro e w5 ⟨rfl, a5⟩
      go_wp2_with fail
      go_ret
      exact ⟨rfl, (HW.out.2.trans (A3.out.trans A4.out)).trans a5⟩
    · have HS := hideIt (steps_any w3 al cl ac cc aT ct G3.out.n1 G3.out.n2 G3.out.c1 G3.out.c2 G3.out.t1 (by have := HR.out.2; omega) hc HR.out.1)
      have HN := hideIt (fun V (hV : After w3 V) => run_new V al cl (G3.out.n1.after hV) G3.out.n2 ac cc (G3.out.c1.after hV) G3.out.c2 hc)
      have HK := hideIt hc
      have hC8 := (chk_zero hc).2.2.1
      clear hc
      obtain ⟨f, hf⟩ : ∃ f, f = val L C (rdsOf X) (L.length - 1) := ⟨_, rfl⟩
      have HF := hideIt hf
      rw [← hf] at HS
      obtain ⟨B, hB⟩ : ∃ B, bitsOf f X.length = B := ⟨_, rfl⟩
      have HBf := hideIt hB
      rw [hB] at HS
      have hBs : B.size = X.length := by rw [← hB, bitsOf_size]
      clear hf hB
      go_wp2_with fail
      refine HS.out.mono ?_
      rintro e w4 ⟨rfl, a4⟩
      clear d0 d1
      obtain ⟨d0, d1⟩ := HB.out _ (A3.out.trans a4)
      have A4 := hideIt a4
      clear a4
      go_wp2_with fail
      refine (HN.out w4 A4.out).mono ?_
      rintro e w5 ⟨m, rfl, r5, a5⟩
      have R5 := hideIt r5
      have A5 := hideIt (A4.out.trans a5)
      clear d0 d1 a5 r5
      go_wp2_with fail
      refine (one_new w5).mono ?_
      rintro e w6 ⟨n, rfl, r6, a6⟩
      have R6 := hideIt (And.intro (R5.out.after a6) r6)
      have A6 := hideIt (A5.out.trans a6)
      clear a6 r6 HS HN R5
      have hX' : (X.length : Int) ≤ 150 := by have := HR.out.2; omega
      go_wp2_with fail
      go_loopw [12] (fun i wr => ∃ (j : Nat) (S : List (List Rd)), j ≤ X.length ∧ i = .int .i64 (j : Int) ∧ Run wr w4.heap.size w5.heap.size m L C ((rdsOf X).take j) ∧ Run wr (w5.heap.size + 1) w6.heap.size n [Nd.none] [] S ∧ After w3 wr) (fun i _ => X.length - (intOf i).toNat)
      case atStart => exact ⟨0, [], Nat.zero_le _, rfl, R6.out.1, R6.out.2, A6.out⟩
      case round =>
        clear R6 A6
        obtain ⟨j, S, hj, rfl, rr, rn, aw⟩ := hrel
        obtain ⟨d0, d1⟩ := HB.out _ (A3.out.trans aw)
        by_cases hjn : j < X.length
        rotate_left
        · have i1 : ¬ (j : Int) < (X.length : Int) := by omega
          have H8 := hideIt aw
          clear rr rn aw
          go_wp2_with fail
          go_ret
          exact ⟨rfl, (HW.out.2.trans A3.out).trans H8.out⟩
        have i1 : (j : Int) < (X.length : Int) := by omega
        obtain ⟨tb, toff, x, rfl, htb, hx, k0, kin⟩ := trow_at G3.out.t1 hjn
        have k0' := (aw.cell htb _).trans k0
        have KT := hideIt k0
        have hlt : tb < wr.heap.size := Nat.lt_of_lt_of_le htb aw.size
        have hxn := HR.out.1 x (List.mem_of_getElem? hx)
        have hxl : x.l.length = C.length := by rw [kin.1.1, hxn]
        have HRd := hideIt (readings_any (L := x.l) wr x.a x.d (by rw [hxl, ← hxn]; exact (kin.after aw).1) (by rw [hxl, ← hxn]; exact kin.2) (by omega))
        rw [hxl] at HRd
        have hxr : (rdsOf X)[j]? = some x.l := by unfold rdsOf; rw [List.getElem?_map, hx]; rfl
        have HX := hideIt (And.intro kin (And.intro hxn hxr))
        have HQ := hideIt (And.intro rr (And.intro rn aw))
        rw [hxn] at k0' KT
        clear aw rr rn hx kin k0 hxn hxr
        go_wp2_with fail
        refine HRd.out.mono ?_
        rintro e w7 ⟨v7, rfl, o7, a7⟩
        obtain ⟨av, cv, rfl, j1, j2, j3⟩ := ORow.row o7
        clear j1 j2 j3
        have O7 := hideIt (And.intro o7 a7)
        clear o7 a7 d0 d1 k0'
        have a8 : After w7 (w7.alloc (.cells #[.int .i64 1, .int .i64 1] 48)) := After.rfl.alloc _
        have HL8 : Hid (x.l.length ≤ 8) := hideIt (by omega)
        have HO8 := hideIt (own_after O7.out.1 a8)
        have HG8 : Hid (DRow (w7.alloc (.cells #[.int .i64 1, .int .i64 1] 48)) (some ⟨w7.heap.size, 0, none⟩) 1 [⟨1, 1⟩]) := hideIt (lit_row (heap_alloc_new w7 _) rfl rfl)
        have HS8 : Hid (wr.heap.size ≤ (w7.alloc (.cells #[.int .i64 1, .int .i64 1] 48)).heap.size) := hideIt (Nat.le_trans O7.out.2.size a8.size)
        have HA8 := hideIt a8
        have HXL := hideIt hxl
        generalize hzl : x.l.length = zl at *
        clear a8 hxl
        have HZL := hideIt hzl
        clear hzl
        go_wp2_with (at_builtin; refine app_row (E := rdE) rfl (.tmp 59) (.tmp 61) 43 48 Try.underlying43 Try.infoReading rfl (by decide) rfl wr.heap.size _ x.l rfl (by have := HO8.out; rw [← HZL.out] at this ⊢; exact this) (some ⟨w7.heap.size, 0, none⟩) 1 1 [⟨1, 1⟩] rfl HG8.out (fun h => by cases h) (by have := HL8.out; have := HZL.out; unfold maxLen; omega) (by have := HL8.out; have := HZL.out; omega) HS8.out ?_; intro v9 w9 h9 b9; have H9 := hideIt (And.intro h9 b9); clear h9 b9)
        obtain ⟨a9, c9, e9, j1, j2, j3⟩ := ORow.row H9.out.1
        clear j1 j2 j3
        have aw9 : After wr w9 := (O7.out.2.trans HA8.out).then H9.out.2 (fun k hk e => by have := (HO8.out.lt k (by first | exact e | (rw [← HZL.out] at e; exact e))).1; omega)
        have AW9 := hideIt (And.intro aw9 (HQ.out.2.2.trans aw9))
        have RW9 := hideIt (And.intro (HQ.out.1.after aw9) (HQ.out.2.1.after aw9))
        clear aw9
        have HT9 := hideIt (step_arg RW9.out.1.mc RW9.out.1.pos (a := a9) (n := (x.l ++ [(⟨1, 1⟩ : Rd)]).length) (c := c9) (by have := HXL.out; have := HZL.out; simp; omega))
        rw [e9]
        generalize (x.l ++ [(⟨1, 1⟩ : Rd)]).length = z9 at *
        refine HT9.out.mono ?_
        rintro e w10 ⟨rfl, rfl⟩
        clear HT9 e9
        have HOt : Hid (DRow w10 ao no Y) := hideIt (HH.out.2.after ((HW.out.2.trans A3.out).trans AW9.out.2))
        obtain ⟨d0, d1⟩ := HB.out _ (A3.out.trans AW9.out.2)
        by_cases hno : no = C.length
        · have HTo := hideIt (RW9.out.1.step (ar := ao) (cr := co) (R := Y) (by have := HOt.out; rw [hno] at this; exact this) (fun y hy h0 hr => by
            obtain ⟨b', off', e', hlt'⟩ := HH.out.2.lt (by omega)
            rw [e'] at hy
            cases hy
            have h8 : w4.heap.size ≤ b' := hr.1
            have := (HW.out.2.trans (A3.out.trans A4.out)).size
            omega))
          rw [← hno] at HTo
          have i2 : ((no : Int) == (C.length : Int)) = true := by simp [hno]
          have i3 : ((no : Int) != (C.length : Int)) = false := by simp [hno]
          clear hno
          generalize val L C ((rdsOf X).take j ++ [Y]) (L.length - 1) ((rdsOf X).take j).length = VO at *
          go_wp2_with fail
          refine HTo.out.mono ?_
          rintro e w11 ⟨rfl, r11, b11⟩
          have a11 : After w3 w11 := AW9.out.2.then b11 (fun k hk e => by have := e.1; have := A4.out.size; omega)
          clear d0 d1
          obtain ⟨d0, d1⟩ := HB.out _ (A3.out.trans a11)
          have A11 := hideIt a11
          clear r11 b11 a11
          go_wp2_with fail
          go_ret
          exact ⟨rfl, (HW.out.2.trans A3.out).trans A11.out⟩
        · have HTo := hideIt (step_arg RW9.out.1.mc RW9.out.1.pos (a := ao) (n := no) (c := co) hno)
          have i2 : ((no : Int) == (C.length : Int)) = false := by simp; omega
          have i3 : ((no : Int) != (C.length : Int)) = true := by simp; omega
          clear hno
          go_wp2_with fail
          refine HTo.out.mono ?_
          rintro e w11 ⟨rfl, rfl⟩
          have HTn := hideIt (one_step RW9.out.2)
          clear HTo
          go_wp2_with fail
          refine HTn.out.mono ?_
          rintro e w12 ⟨rfl, r12, b12⟩
          have a12 : After w3 w12 := AW9.out.2.then b12 (fun k hk e => by have := e.1; have := A5.out.size; omega)
          have A12 := hideIt a12
          have RM := hideIt (RW9.out.1.but b12 (fun k k1 k2 e => by have := e.1; omega))
          have RN := hideIt r12
          clear d0 d1 HTn
          obtain ⟨d0, d1⟩ := HB.out _ (A3.out.trans a12)
          have k12 := (a12.cell (cell_lt KT.out) _).trans KT.out
          have hlt12 : tb < w12.heap.size := Nat.lt_of_lt_of_le (cell_lt KT.out) a12.size
          have hrow : DRow w12 x.a C.length x.l := by rw [← HX.out.2.1]; exact (HX.out.1.after a12).1
          have HQ2 := hideIt (RM.out.step (cr := x.d) hrow (row_far HX.out.1 (show w3.heap.size ≤ w4.heap.size from A4.out.size) HX.out.2.1))
          have hl : ((rdsOf X).take j).length = j := by rw [List.length_take, rdsOf_length]; omega
          rw [hl, ← take_snoc HX.out.2.2, val_take, ← HF.out] at HQ2
          have l1 : j < B.size := by omega
          have q1 := bits_nat HBf.out l1
          clear r12 b12 a12 hrow hl
          rcases hfj : f j with _ | _
          · rw [hfj] at q1 HQ2
            simp only [Bool.false_eq_true, if_false] at q1
            clear hfj
            go_wp2_with fail
            refine HQ2.out.mono ?_
            rintro e w13 ⟨rfl, r13, b13⟩
            have H13 := hideIt (And.intro r13 (And.intro (RN.out.but b13 (fun k k1 k2 e => by have := e.2; omega)) (show After w3 w13 from A12.out.then b13 (fun k hk e => by have := e.1; have := A4.out.size; omega))))
            clear r13 b13 HQ2
            go_wp2_with fail
            go_roundw
            case rel => exact ⟨j + 1, _, by omega, by go_num, H13.out.1, H13.out.2.1, H13.out.2.2⟩
            case measure => simp [intOf]; omega
          · rw [hfj] at q1 HQ2
            simp only [if_true] at q1
            clear hfj
            go_wp2_with fail
            refine HQ2.out.mono ?_
            rintro e w13 ⟨rfl, r13, b13⟩
            have H13 := hideIt (And.intro r13 (And.intro (RN.out.but b13 (fun k k1 k2 e => by have := e.2; omega)) (show After w3 w13 from A12.out.then b13 (fun k hk e => by have := e.1; have := A4.out.size; omega))))
            clear r13 b13 HQ2
            go_wp2_with fail
            go_roundw
            case rel => exact ⟨j + 1, _, by omega, by go_num, H13.out.1, H13.out.2.1, H13.out.2.2⟩
            case measure => simp [intOf]; omega
end Go.Proofs.Ythgmjeljjladhaa
