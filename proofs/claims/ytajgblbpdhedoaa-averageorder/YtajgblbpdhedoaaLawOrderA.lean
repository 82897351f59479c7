/-
  AverageOrder.
-/
import Derived.Test.YtajgblbpdhedoaaLawBetween
import Derived.Test.YtajgblbpdhedoaaDuo
import Derived.Deep.QuietTactic
import Derived.BigQuiet
namespace Go.Proofs.Ytajgblbpdhedoaa
open Go.RowKit
set_option maxRecDepth 8000
/-- The first N numbers, the last one first. -/
def rv (N : Nat) (zs : List Int) (j : Nat) : List Int := (List.range j).map (fun i => zs.getD (N - 1 - i) 0)
theorem rv_length (N : Nat) (zs : List Int) (j : Nat) : (rv N zs j).length = j := by simp [rv]
theorem rv_succ (N : Nat) (zs : List Int) (j : Nat) : rv N zs (j + 1) = rv N zs j ++ [zs.getD (N - 1 - j) 0] := by
  unfold rv
  rw [List.range_succ, List.map_append]
  rfl
theorem rv_perm {zs : List Int} {N : Nat} (h : N ≤ zs.length) : (rv N zs N).Perm (zs.take N) := by
  have e : rv N zs N = (zs.take N).reverse := by
    apply List.ext_getElem?
    intro i
    by_cases hi : i < N
    · have h1 : (rv N zs N)[i]? = some (zs.getD (N - 1 - i) 0) := by simp [rv, hi]
      have h2 : (zs.take N).length = N := by rw [List.length_take]; omega
      rw [h1, List.getElem?_reverse (by rw [h2]; exact hi), h2, List.getElem?_take_of_lt (by omega), getD_at (by omega)]
      simp [show N - 1 - i < zs.length by omega]
    · rw [List.getElem?_eq_none (by rw [rv_length]; omega), List.getElem?_eq_none (by rw [List.length_reverse, List.length_take]; omega)]
  rw [e]
  exact List.reverse_perm _
/-- The contrary numbers. -/
def ct (zs : List Int) (j : Nat) : List Int := (List.range j).map (fun i => -clampZ (zs.getD i 0))
theorem ct_length (zs : List Int) (j : Nat) : (ct zs j).length = j := by simp [ct]
theorem ct_succ (zs : List Int) (j : Nat) : ct zs (j + 1) = ct zs j ++ [-clampZ (zs.getD j 0)] := by
  unfold ct
  rw [List.range_succ, List.map_append]
  rfl
theorem take_range {zs : List Int} {N : Nat} (h : N ≤ zs.length) : zs.take N = (List.range N).map (fun i => zs.getD i 0) := by
  apply List.ext_getElem?
  intro i
  rw [List.getElem?_take, List.getElem?_map]
  by_cases hi : i < N
  · rw [if_pos hi, List.getElem?_range hi]
    simp [show i < zs.length by omega]
  · rw [if_neg hi]
    simp [hi]
theorem ct_clamps {zs : List Int} {N : Nat} (h : N ≤ zs.length) : clamps (ct zs N) = (clamps (zs.take N)).map (fun x => -x) := by
  rw [take_range h]
  unfold ct clamps
  rw [List.map_map, List.map_map, List.map_map]
  apply List.map_congr_left
  intro i _
  show clampZ (-clampZ (zs.getD i 0)) = -clampZ (zs.getD i 0)
  have := clampZ_le (zs.getD i 0)
  generalize clampZ (zs.getD i 0) = c at *
  unfold clampZ
  omega
theorem meanZ_neg {xs : List Int} (h : 0 < xs.length) : meanZ (xs.map (fun x => -x)) = - meanZ xs := by
  unfold meanZ
  rw [sumZ_neg, List.length_map, near_neg _ _ h]
theorem avg_last {N : Nat} (hN : 0 < N) {xs : List Int} (h : xs.length = N) : avg N xs (N - 1) = meanZ (clamps xs) := by
  unfold avg lastN
  rw [show N - 1 + 1 = N by omega, List.take_of_length_le (by omega), clamps_length, h, Nat.sub_self]
  rfl
theorem avg_same {N : Nat} (hN : 0 < N) {xs ys : List Int} (h : xs.Perm ys) (hx : xs.length = N) : avg N ys (N - 1) = avg N xs (N - 1) := by
  rw [avg_last hN hx, avg_last hN (by rw [← h.length_eq]; exact hx)]
  exact meanZ_same (h.symm.map clampZ)
theorem avg_long {N : Nat} (hN : 0 < N) (ys : List Int) {xs : List Int} (hx : xs.length = N) : avg N (ys ++ xs) (ys.length + N - 1) = avg N xs (N - 1) := by
  rw [avg_last hN hx]
  unfold avg lastN
  rw [show ys.length + N - 1 + 1 = ys.length + N by omega, List.take_of_length_le (by rw [List.length_append]; omega), clamps_length, List.length_append, hx, Nat.add_sub_cancel]
  unfold clamps
  rw [List.map_append, List.drop_left' (by rw [List.length_map])]
theorem avg_contrary {N : Nat} (hN : 0 < N) {zs : List Int} (h : N ≤ zs.length) : avg N (ct zs N) (N - 1) = - avg N (zs.take N) (N - 1) := by
  have hl : (zs.take N).length = N := by rw [List.length_take]; omega
  rw [avg_last hN (ct_length zs N), avg_last hN hl, ct_clamps h, meanZ_neg (by rw [clamps_length, hl]; exact hN)]
theorem avg_fit {N : Nat} (hN : 0 < N) (zs : List Int) {i : Nat} (hi : i < zs.length) : -2147483647 ≤ avg N zs i ∧ avg N zs i ≤ 2147483647 := by
  unfold avg
  refine mean_fit ?_ ((Fit.clamps _).drop _)
  rw [lastN_length, clamps_length, List.length_take]
  omega
set_option maxHeartbeats 4000000 in
theorem law_orderA (w : World) (n : Int) (h1 : -9223372036854775808 ≤ n) (h2 : n ≤ 9223372036854775807) (a : Option Addr) (k c : Nat) (zs : List Int) (hl : IRow w a k zs) (hk : k ≤ 17592186043904) (hkc : k ≤ c) (a' : Option Addr) (m c' : Nat) (ys : List Int) (hl' : IRow w a' m ys) (hm : m ≤ 17592186043904) (hnil : a' = none → m = 0 ∧ c' = 0) :
    Calls Try.prog 5 #[.int .i64 n, .slice a k c, .slice a' m c'] w fun e w' => e = .returned (.bool true) ∧ After w w' := by
  have HW := hideIt (works_any w)
  have HO := hideIt (fun W => bring_any n 15 W h1 h2 (by omega) (by omega))
  have hmay := anyN_may n
  have hN : ((anyN n : Nat) : Int) = 1 + ((broughtTo n 15 : Nat) : Int) := by unfold anyN; omega
  have hbl := broughtTo_lt n (m := 15) (by omega)
  generalize broughtTo n 15 = b0 at *
  generalize anyN n = N at *
  have HM := hideIt hmay
  have n1 : (1 : Int) ≤ (N : Int) := hmay.1
  have n2 : (N : Int) ≤ 15 := hmay.2
  have n3 : 1 + (b0 : Int) = (N : Int) := hN.symm
  have n4 : (b0 : Int) < 15 := by omega
  have HLn := hideIt (And.intro hl.1 hl'.1)
  have HL := hideIt hl
  have HL' := hideIt hl'
  have HNI := hideIt hnil
  have k0 : (k : Int) ≤ 17592186043904 := by omega
  have k1 : (k : Int) ≤ (c : Int) := by omega
  have m0 : (m : Int) ≤ 17592186043904 := by omega
  clear h1 h2 hmay hl hl' hnil hN hbl
  go_enter Try.func5, Try.ntmps5
  go_wp2_with fail
  refine HW.out.mono ?_
  rintro e w1 ⟨rfl, a1⟩
  have A1 := hideIt a1
  clear a1 HW
  by_cases hkN : k < N
  · have i1 : (k : Int) < (N : Int) := by omega
    go_wp2_with (go_at_call 13; refine (HO.out _).mono ?_; rintro e w' ⟨rfl, rfl⟩)
    go_ret
    exact ⟨rfl, A1.out⟩
  · have i1 : ¬ (k : Int) < (N : Int) := by omega
    obtain ⟨b, off, rfl, hb, -⟩ := HL.out.cellAt (i := 0) (by omega)
    have hkN' : N ≤ k := by omega
    have i2 : (N : Int) ≤ (c : Int) := by omega
    have i3 : N ≤ c := by omega
    go_wp2_with (go_at_call 13; refine (HO.out _).mono ?_; rintro e w' ⟨rfl, rfl⟩)
    clear HO n3 n4
    go_loopw [7, 9, 10] (fun o o2 i wr => ∃ j : Nat, j ≤ N ∧ i = .int .i64 j ∧ Duo wr w.heap.size o o2 (rv N zs j) (ct zs j) ∧ After w wr) (fun _ _ i _ => N - (intOf i).toNat)
    case atStart => exact ⟨0, Nat.zero_le _, rfl, Duo.nil _ _, A1.out⟩
    case round =>
      obtain ⟨j, hj, rfl, duo, af⟩ := hrel
      by_cases hjN : j < N
      · have j1 : (j : Int) < (N : Int) := by omega
        obtain ⟨N1, hN1⟩ : ∃ N1, N1 = N - 1 := ⟨_, rfl⟩
        obtain ⟨r, hr⟩ : ∃ r, r = N - 1 - j := ⟨_, rfl⟩
        have e1 : (N : Int) - 1 = (N1 : Int) := by omega
        have e2 : (N1 : Int) - (j : Int) = (r : Int) := by omega
        have j2 : (r : Int) < (N : Int) := by omega
        have HG := hideIt (show ∀ W, After w W → ∀ q, q < k → W.cell? ⟨b, off + q, none⟩ = some (.int .i64 (zs.getD q 0)) from fun W h q hq => by
          obtain ⟨b1, o1, ea, _, e3⟩ := (HL.out.after h).cellAt hq
          cases ea
          exact e3)
        have e0 := HG.out _ af r (by omega)
        have hs := rv_succ N zs j
        rw [← hr] at hs
        have hs2 := ct_succ zs j
        have hcz := clampZ_le (zs.getD j 0)
        have HC := hideIt (fun W => clamp_any (zs.getD j 0) W)
        have HGj := hideIt (fun W h => HG.out W h j (by omega))
        clear HG
        generalize zs.getD r 0 = x at *
        generalize zs.getD j 0 = z at *
        generalize clampZ z = y at *
        have duo2 := duo.after (After.rfl.alloc (.cells #[.int .i64 x] 3))
        have hrow : IRow (wr.alloc (.cells #[.int .i64 x] 3)) (some ⟨wr.heap.size, 0, none⟩) 1 [x] := lit_irow (heap_alloc_new wr _) rfl rfl
        have HO := hideIt duo2
        have HR := hideIt hrow
        have HA := hideIt (And.intro af (And.intro hs hs2))
        have HB := hideIt (show w.heap.size ≤ (wr.alloc (.cells #[.int .i64 x] 3)).heap.size by have := af.size; simp; omega)
        have HZ := hideIt (show (rv N zs j).length + 1 ≤ 17592186044416 by rw [rv_length]; omega)
        clear duo2 hrow duo hs hs2 hr hN1
        have AF := hideIt af
        clear af
        go_wp2_with (at_builtin; refine app_duo rfl (.tmp 32) (.tmp 40) rfl w.heap.size _ _ (rv N zs j) (ct zs j) rfl HO.out ⟨wr.heap.size, 0, none⟩ x rfl HR.out HZ.out HB.out ?_)
        intro v3 w3 d3 b3
        rw [← HA.out.2.1] at d3
        have a3 : After w w3 := HA.out.1.then ((After.rfl.alloc _).but.then b3 (fun i _ t => t)) (fun i hi t => by have : w.heap.size ≤ i := t; omega)
        have e4 := HGj.out _ a3
        have duo4 := d3.after (After.rfl.alloc (.cells #[.int .i64 (-y)] 3))
        have hrow : IRow (w3.alloc (.cells #[.int .i64 (-y)] 3)) (some ⟨w3.heap.size, 0, none⟩) 1 [-y] := lit_irow (heap_alloc_new w3 _) rfl rfl
        have HO4 := hideIt duo4
        have HR4 := hideIt hrow
        have HB4 := hideIt (show w.heap.size ≤ (w3.alloc (.cells #[.int .i64 (-y)] 3)).heap.size by have := a3.size; simp; omega)
        have HZ4 := hideIt (show (ct zs j).length + 1 ≤ 17592186044416 by rw [ct_length]; omega)
        have HA4 := hideIt a3
        have HD3 := hideIt d3
        clear d3 b3 a3 duo4 hrow HR HO HB HZ e0
        go_wp2_with (first
          | (go_at_call 15; refine (HC.out _).mono ?_; rintro e w' ⟨rfl, rfl⟩)
          | (at_builtin; refine app_duo2 rfl (.tmp 42) (.tmp 49) rfl w.heap.size _ _ (rv N zs (j + 1)) (ct zs j) rfl HO4.out ⟨_, 0, none⟩ (-y) rfl HR4.out HZ4.out HB4.out ?_))
        intro v5 w5 d5 b5
        rw [← HA.out.2.2] at d5
        have HF := hideIt (And.intro d5 (HA4.out.then ((After.rfl.alloc _).but.then b5 (fun i _ t => t)) (fun i hi t => by have : w.heap.size ≤ i := t; omega)))
        clear d5 b5
        go_wp2
        go_roundw
        case rel => exact ⟨j + 1, by omega, by go_num, HF.out⟩
        case measure => simp [intOf]; omega
      · obtain rfl : j = N := by omega
        have j1 : ¬ (j : Int) < (j : Int) := by omega
        obtain ⟨ta, tc, rfl, ti, -, -, -⟩ := own_irow duo.fst
        obtain ⟨ua, uc, rfl, ui, -, -, -⟩ := own_irow duo.snd
        rw [rv_length, ct_length]
        rw [rv_length] at ti
        rw [ct_length] at ui
        have HT := hideIt ti
        have HU := hideIt ui
        have HAF := hideIt af
        have HIR' := hideIt (HL'.out.after af)
        have HSZ := hideIt (show w.heap.size ≤ wr.heap.size from af.size)
        have HWR := hideIt (Nat.le_refl wr.heap.size)
        have HZ := hideIt (show ([] : List Int).length + m ≤ 17592186044416 by simp; omega)
        have HN0 := hideIt (own_nil wr wr.heap.size)
        clear duo af ti ui
        go_wp2_with (at_builtin; refine app_ints rfl (.tmp 51) (.tmp 52) rfl wr.heap.size _ [] rfl HN0.out a' m c' ys rfl HIR'.out HNI.out HZ.out HWR.out ?_)
        intro v3 w3 o3 b3
        have a3 : After wr w3 := b3.mono (fun i hi t => by cases t)
        have o3 : OInts w3 wr.heap.size v3 ys := o3
        have HO3 := hideIt o3
        have HA3 := hideIt a3
        have HIR := hideIt (IRow.take (HL.out.after (HAF.out.trans a3)) hkN')
        have HZ2 := hideIt (show ys.length + j ≤ 17592186044416 by have := HLn.out; omega)
        have HS3 := hideIt a3.size
        clear o3 b3 a3
        go_wp2_with (at_builtin; refine app_ints rfl (.tmp 54) (.tmp 55) rfl wr.heap.size _ ys rfl HO3.out (some ⟨b, off, none⟩) j c (zs.take j) rfl HIR.out (fun h => by cases h) HZ2.out HS3.out ?_)
        intro v4 w4 o4 b4
        have a4 : After wr w4 := HA3.out.then b4 (fun i hi t => by have := (own_lt HO3.out t).1; omega)
        obtain ⟨la, lc, rfl, li, -, -, -⟩ := own_irow o4
        have hzj : (zs.take j).length = j := by rw [List.length_take]; have := HLn.out; omega
        obtain ⟨Q, hQ⟩ : ∃ Q : Nat, Q = (ys ++ zs.take j).length := ⟨_, rfl⟩
        rw [← hQ] at li ⊢
        have hQ2 : Q = ys.length + j := by rw [hQ, List.length_append, hzj]
        have hQb : Q ≤ 17592186044416 := by have := HZ2.out; omega
        have hj0 : 0 < j := by omega
        have hwj : After w w4 := HAF.out.trans a4
        have R1 := hideIt (run_any w4 j HM.out _ j c _ (IRow.take (HL.out.after hwj) hkN') (by omega))
        have R2 := hideIt (fun W (h : After wr W) => run_any W j HM.out _ j tc _ (HT.out.after h) (by omega))
        have R3 := hideIt (fun W (h : After w4 W) => run_any W j HM.out _ Q lc _ (li.after h) hQb)
        have R4 := hideIt (fun W (h : After wr W) => run_any W j HM.out _ j uc _ (HU.out.after h) (by omega))
        have v2 : avg j (rv j zs j) (j - 1) = avg j (zs.take j) (j - 1) := avg_same hj0 (rv_perm (by have := HLn.out; omega)).symm hzj
        have v3 : avg j (ys ++ zs.take j) (Q - 1) = avg j (zs.take j) (j - 1) := by rw [hQ2]; exact avg_long hj0 ys hzj
        have v4 : avg j (ct zs j) (j - 1) = - avg j (zs.take j) (j - 1) := avg_contrary hj0 (by have := HLn.out; omega)
        have v5 := avg_fit hj0 (zs.take j) (i := j - 1) (by omega)
        have HA4 := hideIt (And.intro hwj a4)
        obtain ⟨J, hJ⟩ : ∃ J : Nat, J = j - 1 := ⟨_, rfl⟩
        obtain ⟨Q1, hQ1⟩ : ∃ Q1 : Nat, Q1 = Q - 1 := ⟨_, rfl⟩
        have g1 : (j : Int) - 1 = (J : Int) := by omega
        have g2 : (Q : Int) - 1 = (Q1 : Int) := by omega
        have g3 : (J : Int) < (j : Int) := by omega
        have g4 : (Q1 : Int) < (Q : Int) := by omega
        have g5 : (Q : Int) ≤ 17592186044416 := by omega
        have g6 : J < j := by omega
        have g7 : Q1 < Q := by omega
        rw [← hJ] at v2 v4 v5
        rw [← hJ, ← hQ1] at v3
        have HV := hideIt (And.intro v2 (And.intro v3 v4))
        have HV5 := hideIt v5
        clear v2 v3 v4 v5 hwj a4 li o4 b4 hQ hQ2 hQb hJ hQ1 hzj hj0
        go_wp2_with fail
        refine R1.out.mono ?_
        rintro e w5 ⟨u5, rfl, o5, a5⟩
        obtain ⟨pa, pc, rfl, i5, -, -, -⟩ := own_irow o5
        rw [avgs_length] at i5 ⊢
        have I5 := hideIt (And.intro i5 a5)
        clear o5 i5 a5 R1
        go_wp2_with fail
        refine (R2.out _ (HA4.out.2.trans I5.out.2)).mono ?_
        rintro e w6 ⟨u6, rfl, o6, a6⟩
        obtain ⟨qa, qc, rfl, i6, -, -, -⟩ := own_irow o6
        rw [avgs_length] at i6 ⊢
        have I6 := hideIt (And.intro i6 a6)
        clear o6 i6 a6 R2
        go_wp2_with fail
        refine (R3.out _ (I5.out.2.trans I6.out.2)).mono ?_
        rintro e w7 ⟨u7, rfl, o7, a7⟩
        obtain ⟨ra, rc, rfl, i7, -, -, -⟩ := own_irow o7
        rw [avgs_length] at i7 ⊢
        have I7 := hideIt (And.intro i7 a7)
        clear o7 i7 a7 R3
        go_wp2_with fail
        refine (R4.out _ (((HA4.out.2.trans I5.out.2).trans I6.out.2).trans I7.out.2)).mono ?_
        rintro e w8 ⟨u8, rfl, o8, a8⟩
        obtain ⟨sa, sc, rfl, i8, -, -, -⟩ := own_irow o8
        rw [avgs_length] at i8 ⊢
        obtain ⟨b5, f5, rfl, -, e5⟩ := (I5.out.1.after ((I6.out.2.trans I7.out.2).trans a8)).cellAt g6
        obtain ⟨b6, f6, rfl, -, e6⟩ := (I6.out.1.after (I7.out.2.trans a8)).cellAt g6
        obtain ⟨b7, f7, rfl, -, e7⟩ := (I7.out.1.after a8).cellAt g7
        obtain ⟨b8, f8, rfl, -, e8⟩ := i8.cellAt g6
        rw [avgs_getD g6] at e5
        rw [avgs_getD g6, HV.out.1] at e6
        rw [avgs_getD g7, HV.out.2.1] at e7
        rw [avgs_getD g6, HV.out.2.2] at e8
        have hx5 := HV5.out
        generalize avg j (zs.take j) J = x at *
        have HF := hideIt ((((HA4.out.1.trans I5.out.2).trans I6.out.2).trans I7.out.2).trans a8)
        clear o8 i8 a8 R4 I5 I6 I7 HA4 HV HV5
        have hxx : (x == x) = true := by simp
        have hxn : IntKind.i64.wrap (-(-x)) = x := by rw [Int.neg_neg]; exact IntWalk.i64_in _ (by omega)
        go_wp2_with fail
        simp only [List.append_eq, List.cons_append, List.nil_append]
        go_quiet (fail)
        go_wp2
        go_ret
        exact ⟨rfl, HF.out.draws _⟩
end Go.Proofs.Ytajgblbpdhedoaa
