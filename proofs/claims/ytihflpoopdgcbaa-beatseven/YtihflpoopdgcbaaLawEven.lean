/-
  BeatsEven.
-/
import Derived.Test.YtihflpoopdgcbaaLawBetweenB
import Derived.Test.YtihflpoopdgcbaaDuo
namespace Go.Proofs.Ytihflpoopdgcbaa
open Go.RowKit
set_option maxRecDepth 8000
/-- All ticks so much later. -/
def ltr (zs : List Int) (s : Int) (j : Nat) : List Int := (List.range j).map (fun i => atT zs (i + 1) + s)
theorem ltr_length (zs : List Int) (s : Int) (j : Nat) : (ltr zs s j).length = j := by simp [ltr]
theorem ltr_succ (zs : List Int) (s : Int) (j : Nat) : ltr zs s (j + 1) = ltr zs s j ++ [atT zs (j + 1) + s] := by
  unfold ltr
  rw [List.range_succ, List.map_append]
  rfl
theorem ltr_getD (zs : List Int) (s : Int) {i j : Nat} (h : i < j) : (ltr zs s j).getD i 0 = atT zs (i + 1) + s := range_getD _ h
/-- Ticks that are all as far apart. -/
def evn (s ap : Int) (j : Nat) : List Int := (List.range j).map (fun i : Nat => s + (i : Int) * ap)
theorem evn_length (s ap : Int) (j : Nat) : (evn s ap j).length = j := by simp [evn]
theorem evn_succ (s ap : Int) (j : Nat) : evn s ap (j + 1) = evn s ap j ++ [s + (j : Int) * ap] := by
  unfold evn
  rw [List.range_succ, List.map_append]
  rfl
theorem evn_getD (s ap : Int) {i j : Nat} (h : i < j) : (evn s ap j).getD i 0 = s + (i : Int) * ap := range_getD _ h
theorem times_le {i : Nat} {ap : Int} (h1 : 1 ≤ ap) (h2 : ap ≤ 100000) (hi : i ≤ 200) : 0 ≤ (i : Int) * ap ∧ (i : Int) * ap ≤ 20000000 := by
  refine ⟨Int.mul_nonneg (by omega) (by omega), ?_⟩
  have := Int.mul_le_mul (show (i : Int) ≤ 200 by omega) h2 (by omega) (by omega)
  omega
theorem ltr_rise (zs : List Int) {s : Int} (h1 : 0 ≤ s) (h2 : s ≤ 1073741824) {j : Nat} (hj : j ≤ 200) : Rise (ltr zs s j) := by
  have hl := ltr_length zs s j
  refine ⟨fun i hi => ?_, fun i hi => ?_, fun i hi => ?_⟩
  · rw [ltr_getD zs s (by omega)]
    have := (atT_le zs (i + 1)).1
    omega
  · rw [ltr_getD zs s (by omega)]
    have := (atT_le zs (i + 1)).2
    omega
  · rw [ltr_getD zs s (by omega), ltr_getD zs s (by omega)]
    have := (atT_step zs (i + 1)).1
    omega
theorem evn_rise {s ap : Int} (h1 : 0 ≤ s) (h2 : s ≤ 1073741824) (h3 : 1 ≤ ap) (h4 : ap ≤ 100000) {j : Nat} (hj : j ≤ 200) : Rise (evn s ap j) := by
  have hl := evn_length s ap j
  refine ⟨fun i hi => ?_, fun i hi => ?_, fun i hi => ?_⟩
  · rw [evn_getD s ap (by omega)]
    have := times_le (i := i) h3 h4 (by omega)
    omega
  · rw [evn_getD s ap (by omega)]
    have := times_le (i := i) h3 h4 (by omega)
    omega
  · rw [evn_getD s ap (by omega), evn_getD s ap (by omega), Int.natCast_add, Int.add_mul]
    omega
theorem rZ_later {N : Nat} (hN : 2 ≤ N) (zs : List Int) (s : Int) (K : Nat) : rZ N (ltr zs s K) = rZ N (rs zs K) := by
  have l1 := ltr_length zs s K
  have l2 := rs_length zs K
  have m1 := lastN_length N (ltr zs s K)
  have m2 := lastN_length N (rs zs K)
  unfold rZ
  rw [l1, l2]
  split
  · rfl
  · unfold rt
    rw [last_getD, last_getD, last_getD, last_getD, m1, m2, l1, l2, ltr_getD zs s (by omega), ltr_getD zs s (by omega), rs_getD zs (by omega), rs_getD zs (by omega)]
    congr 1
    omega
theorem rZ_even {N : Nat} (hN : 2 ≤ N) (s ap : Int) {K : Nat} (hK : 2 ≤ K) : rZ N (evn s ap K) = rd 1 ap := by
  have l1 := evn_length s ap K
  have m1 := lastN_length N (evn s ap K)
  unfold rZ
  rw [l1, if_neg (by omega)]
  unfold rt
  rw [last_getD, last_getD, m1, l1, evn_getD s ap (by omega), evn_getD s ap (by omega), ← rd_scale (g := ((min N K - 1 : Nat) : Int)) (by omega)]
  congr 1
  rw [Int.natCast_add, Int.natCast_add, Int.add_mul, Int.add_mul]
  simp
  omega
theorem bringQ (i : Int) (m : Nat) (h1 : -9223372036854775808 ≤ i) (h2 : i ≤ 9223372036854775807) (hm : 0 < m) (hm2 : (m : Int) ≤ 1073741824) (W : World) :
    Calls Try.prog 15 #[.int .i64 i, .int .i64 m] W fun e w' => e = .returned (.int .i64 (broughtTo i m : Nat)) ∧ ∃ n, w' = W.drewN n :=
  (bring_any i m W h1 h2 hm hm2).mono (fun _ _ h => ⟨h.1, 0, h.2⟩)
set_option maxHeartbeats 2000000 in
theorem law_even (w : World) (n : Int) (h1 : -9223372036854775808 ≤ n) (h2 : n ≤ 9223372036854775807) (a : Option Addr) (k c : Nat) (zs : List Int) (hl : IRow w a k zs) (hz : ∀ z ∈ zs, -9223372036854775808 ≤ z ∧ z ≤ 9223372036854775807) (hk : k ≤ 17592186043904) (x0 x1 : Int) (h3 : -9223372036854775808 ≤ x0) (h4 : x0 ≤ 9223372036854775807) (h5 : -9223372036854775808 ≤ x1) (h6 : x1 ≤ 9223372036854775807) :
    Calls Try.prog 5 #[.int .i64 n, .slice a k c, .agg #[.int .i64 x0, .int .i64 x1]] w fun e w' => e = .returned (.bool true) ∧ After w w' := by
  have a0 : After w (w.alloc (.cells #[.int .i64 x0, .int .i64 x1] 39)) := After.rfl.alloc _
  have hbx : (w.alloc (.cells #[.int .i64 x0, .int .i64 x1] 39)).heap[w.heap.size]? = some (.cells #[.int .i64 x0, .int .i64 x1] 39 (0, 0)) := heap_alloc_new w _
  obtain ⟨w0, hw0⟩ : ∃ w0, w0 = w.alloc (.cells #[.int .i64 x0, .int .i64 x1] 39) := ⟨_, rfl⟩
  rw [← hw0] at a0 hbx
  have HW := hideIt (works_any w0)
  have HO := hideIt (fun W => bring_any n 7 W h1 h2 (by omega) (by omega))
  have hmay := anyN_may n
  have hN : ((anyN n : Nat) : Int) = 2 + ((broughtTo n 7 : Nat) : Int) := by unfold anyN; omega
  have hbl := broughtTo_lt n (m := 7) (by omega)
  generalize broughtTo n 7 = b1 at *
  generalize anyN n = N at *
  have HM := hideIt hmay
  have HRi := hideIt (fun W (h : After w W) => rising_any W a k c zs (hl.after h) hz (by omega))
  have n1 : (2 : Int) ≤ (N : Int) := hmay.1
  have n2 : (N : Int) ≤ 8 := hmay.2
  have n3 : 2 + (b1 : Int) = (N : Int) := hN.symm
  have n4 : (b1 : Int) < 7 := by omega
  have HQ1 := hideIt (fun W => bringQ x0 100000 h3 h4 (by omega) (by omega) W)
  have HQ2 := hideIt (fun W => bringQ x1 1073741824 h5 h6 (by omega) (by omega) W)
  have q1 := broughtTo_lt x0 (m := 100000) (by omega)
  have q2 := broughtTo_lt x1 (m := 1073741824) (by omega)
  generalize broughtTo x0 100000 = d0 at *
  generalize broughtTo x1 1073741824 = d1 at *
  obtain ⟨K, hK⟩ : ∃ K : Nat, K = min k 200 := ⟨_, rfl⟩
  rw [← hK] at HRi
  have hK2 : K ≤ 200 := by omega
  have HA0 := hideIt a0
  have HBX := hideIt hbx
  clear h1 h2 h3 h4 h5 h6 hmay hl hz hN hbl hK hk a0 hbx
  go_enter Try.func5, Try.ntmps5
  go_wp2_with fail
  rw [← hw0]
  clear hw0
  refine HW.out.mono ?_
  rintro e w1 ⟨rfl, a1⟩
  have A1 := hideIt (HA0.out.trans a1)
  have HR := hideIt (HRi.out w1 A1.out)
  have hbx := (a1.block w.heap.size (blk_lt HBX.out) (fun t => t)).trans HBX.out
  have HBX1 := hideIt hbx
  clear a1 HW HRi hbx HBX HA0
  go_wp2_with fail
  refine (HO.out _).mono ?_
  rintro e w' ⟨rfl, hww⟩
  subst w'
  clear HO
  go_wp2_with fail
  refine HR.out.mono ?_
  rintro e w2 ⟨v, rfl, own, a2⟩
  obtain ⟨ra, rc, rfl, ri, -, -, -⟩ := own_irow own
  rw [rs_length] at ri ⊢
  obtain ⟨hlt, c0, c1, -, -⟩ := two_at ((a2.block w.heap.size (blk_lt HBX1.out) (fun t => t)).trans HBX1.out)
  have RI := hideIt ri
  have A2 := hideIt (A1.out.trans a2)
  have s1 : (d1 : Int) < 1073741824 := by omega
  have s2 : (d0 : Int) < 100000 := by omega
  clear own ri a2 HR A1 HBX1 hlt q1 q2
  go_wp2_with fail
  go_quiet (first | (go_at_call_of 15 (Value.int IntKind.i64 x0); refine Calls.quiet_of (HQ1.out _)) | (go_at_call_of 15 (Value.int IntKind.i64 x1); refine Calls.quiet_of (HQ2.out _)))
  obtain ⟨w3, hw3⟩ : ∃ w3, w3 = w2.drewN nq := ⟨_, rfl⟩
  rw [← hw3]
  have a3 : After w2 w3 := by rw [hw3]; exact After.rfl.draws _
  have R3 := hideIt (RI.out.after a3)
  have A3 := hideIt (A2.out.trans a3)
  clear hw3 a3 RI A2 HQ1 HQ2 c0 c1
  obtain ⟨ap, hap⟩ : ∃ ap : Nat, 1 + (d0 : Int) = (ap : Int) := ⟨1 + d0, by omega⟩
  rw [hap]
  have p1 : (1 : Int) ≤ (ap : Int) := by omega
  have p2 : (ap : Int) ≤ 100000 := by omega
  clear hap s2 n3 n4
  go_wp2_with fail
  go_loopw [8, 9, 12] (fun o o2 i wr => ∃ j : Nat, j ≤ K ∧ i = .int .i64 j ∧ Duo wr w3.heap.size o o2 (ltr zs d1 j) (evn d1 ap j) ∧ After w3 wr) (fun _ _ i _ => K - (intOf i).toNat)
  case atStart => exact ⟨0, Nat.zero_le _, rfl, Duo.nil _ _, After.rfl⟩
  case round =>
    obtain ⟨j, hj, rfl, duo, af⟩ := hrel
    by_cases hjk : j < K
    · have j1 : (j : Int) < (K : Int) := by omega
      obtain ⟨b, off, rfl, -, e0⟩ := (R3.out.after af).cellAt hjk
      rw [rs_getD zs hjk] at e0
      have hs := ltr_succ zs d1 j
      have hs2 := evn_succ d1 ap j
      have hT := atT_le zs (j + 1)
      have hM := times_le (i := j) p1 p2 (by omega)
      generalize atT zs (j + 1) = T at *
      obtain ⟨M, hMM⟩ : ∃ M : Int, (j : Int) * (ap : Int) = M := ⟨_, rfl⟩
      rw [hMM] at hs2 hM
      obtain ⟨t1, t2⟩ := hT
      have t3 : T ≤ 200000 := by omega
      obtain ⟨m1, m2⟩ := hM
      have wm : wrap64 M = M := by unfold wrap64; omega
      have HO := hideIt (duo.after (After.rfl.alloc (.cells #[.int .i64 (T + (d1 : Int))] 3)))
      have HR := hideIt (show IRow (wr.alloc (.cells #[.int .i64 (T + (d1 : Int))] 3)) (some ⟨wr.heap.size, 0, none⟩) 1 [T + (d1 : Int)] from lit_irow (heap_alloc_new wr _) rfl rfl)
      have HA := hideIt (And.intro af (And.intro hs hs2))
      have HB := hideIt (show w3.heap.size ≤ (wr.alloc (.cells #[.int .i64 (T + (d1 : Int))] 3)).heap.size by have := af.size; simp; omega)
      have HZ := hideIt (show (ltr zs d1 j).length + 1 ≤ 17592186044416 by rw [ltr_length]; omega)
      clear duo hs hs2 af t2
      go_wp2_with (at_builtin; refine app_duo rfl (.tmp 33) (.tmp 40) rfl w3.heap.size _ _ (ltr zs d1 j) (evn d1 ap j) rfl HO.out ⟨_, 0, none⟩ (T + (d1 : Int)) rfl HR.out HZ.out HB.out ?_)
      intro v4 w4 d4 b4
      rw [← HA.out.2.1] at d4
      have a4 : After w3 w4 := HA.out.1.then ((After.rfl.alloc _).but.then b4 (fun i _ t => t)) (fun i hi t => by have : w3.heap.size ≤ i := t; omega)
      have HO4 := hideIt (d4.after (After.rfl.alloc (.cells #[.int .i64 ((d1 : Int) + M)] 3)))
      have HR4 := hideIt (show IRow (w4.alloc (.cells #[.int .i64 ((d1 : Int) + M)] 3)) (some ⟨w4.heap.size, 0, none⟩) 1 [(d1 : Int) + M] from lit_irow (heap_alloc_new w4 _) rfl rfl)
      have HB4 := hideIt (show w3.heap.size ≤ (w4.alloc (.cells #[.int .i64 ((d1 : Int) + M)] 3)).heap.size by have := a4.size; simp; omega)
      have HZ4 := hideIt (show (evn d1 ap j).length + 1 ≤ 17592186044416 by rw [evn_length]; omega)
      have HA4 := hideIt a4
      clear d4 b4 a4 HR HO HB HZ e0
      go_wp2_with (at_builtin; refine app_duo2 rfl (.tmp 42) (.tmp 48) rfl w3.heap.size _ _ (ltr zs d1 (j + 1)) (evn d1 ap j) rfl HO4.out ⟨_, 0, none⟩ ((d1 : Int) + M) rfl HR4.out HZ4.out HB4.out ?_)
      intro v5 w5 d5 b5
      rw [← HA.out.2.2] at d5
      have HF := hideIt (And.intro d5 (HA4.out.then ((After.rfl.alloc _).but.then b5 (fun i _ t => t)) (fun i hi t => by have : w3.heap.size ≤ i := t; omega)))
      clear d5 b5
      go_wp2
      go_roundw
      case rel => exact ⟨j + 1, by omega, by go_num, HF.out⟩
      case measure => simp [intOf]; omega
    · obtain rfl : j = K := by omega
      have j1 : ¬ (j : Int) < (j : Int) := by omega
      obtain ⟨ta, tc, rfl, ti, -, -, -⟩ := own_irow duo.fst
      obtain ⟨ua, uc, rfl, ui, -, -, -⟩ := own_irow duo.snd
      rw [ltr_length, evn_length]
      rw [ltr_length] at ti
      rw [evn_length] at ui
      have hN2 : 2 ≤ N := by omega
      have R1 := hideIt (rate_any wr N HM.out _ j rc _ (R3.out.after af) (rs_rise zs hK2) (by omega))
      have hr2 := fun W (h : After wr W) => rate_any W N HM.out _ j tc _ (ti.after h) (ltr_rise zs (by omega) (by omega) hK2) (by omega)
      rw [rZ_later hN2] at hr2
      have R2 := hideIt hr2
      have hr4 := fun W (h : After wr W) => rate_any W N HM.out _ j uc _ (ui.after h) (evn_rise (by omega) (by omega) p1 p2 hK2) (by omega)
      have R4 := hideIt hr4
      have HEv := hideIt (fun h => rZ_even (N := N) (K := j) hN2 (d1 : Int) (ap : Int) h)
      have HOv := hideIt (fun W => over_any ap W (by omega) (by omega))
      have HAF := hideIt (A3.out.trans af)
      clear duo af ti ui R3 A3 hr2 hr4 hN2
      generalize rZ N (rs zs j) = X at *
      generalize rZ N (evn d1 ap j) = Y at *
      have hX : (X != X) = false := by simp
      go_wp2_with fail
      refine R1.out.mono ?_
      rintro e w5 ⟨rfl, a5⟩
      have A5 := hideIt a5
      clear a5 R1
      go_wp2_with fail
      refine (R2.out _ A5.out).mono ?_
      rintro e w6 ⟨rfl, a6⟩
      have A6 := hideIt (A5.out.trans a6)
      clear a6 A5 R2
      by_cases hj2 : j < 2
      · have j2 : (j : Int) < 2 := by omega
        have HF := hideIt (HAF.out.trans A6.out)
        clear R4 HEv HOv A6 HAF
        go_wp2
        go_ret
        exact ⟨rfl, HF.out⟩
      · have j2 : ¬ (j : Int) < 2 := by omega
        have hY := HEv.out (by omega)
        clear HEv
        subst hY
        generalize rd 1 (ap : Int) = Y at *
        have hYY : (Y == Y) = true := by simp
        go_wp2_with fail
        refine (R4.out _ A6.out).mono ?_
        rintro e w7 ⟨rfl, a7⟩
        have A7 := hideIt (HAF.out.trans (A6.out.trans a7))
        clear a7 A6 R4 HAF
        go_wp2_with fail
        refine (HOv.out _).mono ?_
        rintro e w8 ⟨rfl, hww⟩
        subst w8
        go_wp2
        go_ret
        exact ⟨rfl, A7.out⟩
end Go.Proofs.Ytihflpoopdgcbaa
