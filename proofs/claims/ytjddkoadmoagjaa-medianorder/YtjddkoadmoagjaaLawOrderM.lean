/-
  MedianOrder.
-/
import Derived.Test.YtjddkoadmoagjaaMdT
import Derived.Deep.QuietTactic
import Derived.BigQuiet
namespace Go.Proofs.Ytjddkoadmoagjaa
open Go.RowKit
set_option maxRecDepth 8000
/-- The places gone through two by two. -/
def rnd (N i : Nat) : Nat := (2 * i + 1) % N
theorem rnd_perm {N : Nat} (h : May (N : Nat)) : ((List.range N).map (rnd N)).Perm (List.range N) := by
  have h1 : N = 1 ∨ N = 3 ∨ N = 5 ∨ N = 7 ∨ N = 9 ∨ N = 11 ∨ N = 13 ∨ N = 15 := by unfold May at h; omega
  rcases h1 with rfl | rfl | rfl | rfl | rfl | rfl | rfl | rfl <;> decide
def trn (N : Nat) (zs : List Int) (j : Nat) : List Int := (List.range j).map (fun i => zs.getD (rnd N i) 0)
theorem trn_length (N : Nat) (zs : List Int) (j : Nat) : (trn N zs j).length = j := by simp [trn]
theorem trn_succ (N : Nat) (zs : List Int) (j : Nat) : trn N zs (j + 1) = trn N zs j ++ [zs.getD (rnd N j) 0] := by
  unfold trn
  rw [List.range_succ, List.map_append]
  rfl
theorem take_range {zs : List Int} {N : Nat} (h : N ≤ zs.length) : zs.take N = (List.range N).map (fun i => zs.getD i 0) := by
  apply List.ext_getElem?
  intro i
  rw [List.getElem?_take, List.getElem?_map]
  by_cases hi : i < N
  · rw [if_pos hi, List.getElem?_range hi]
    simp [show i < zs.length by omega]
  · rw [if_neg hi]
    simp [hi]
theorem trn_perm {zs : List Int} {N : Nat} (hN : May (N : Nat)) (h : N ≤ zs.length) : (trn N zs N).Perm (zs.take N) := by
  rw [take_range h]
  have := (rnd_perm hN).map (fun i => zs.getD i 0)
  rw [List.map_map] at this
  exact this
theorem med_last {N : Nat} (hN : 0 < N) {xs : List Int} (h : xs.length = N) : med N xs (N - 1) = mid (clamps xs) := by
  unfold med lastN
  rw [show N - 1 + 1 = N by omega, List.take_of_length_le (by omega), clamps_length, h, Nat.sub_self]
  rfl
theorem med_same {N : Nat} (hN : 0 < N) {xs ys : List Int} (h : xs.Perm ys) (hx : xs.length = N) : med N ys (N - 1) = med N xs (N - 1) := by
  rw [med_last hN hx, med_last hN (by rw [← h.length_eq]; exact hx)]
  exact mid_same (h.symm.map clampZ)
theorem med_long {N : Nat} (hN : 0 < N) (ys : List Int) {xs : List Int} (hx : xs.length = N) : med N (ys ++ xs) (ys.length + N - 1) = med N xs (N - 1) := by
  rw [med_last hN hx]
  unfold med lastN
  rw [show ys.length + N - 1 + 1 = ys.length + N by omega, List.take_of_length_le (by rw [List.length_append]; omega), clamps_length, List.length_append, hx, Nat.add_sub_cancel]
  unfold clamps
  rw [List.map_append, List.drop_left' (by rw [List.length_map])]
theorem meds_getD {N : Nat} {zs : List Int} {i j : Nat} (h : i < j) : (meds N zs j).getD i 0 = med N zs i := by
  rw [List.getD_eq_getElem?_getD, meds_at N zs h]
  rfl
set_option maxHeartbeats 4000000 in
theorem law_orderM (w : World) (n : Int) (h1 : -9223372036854775808 ≤ n) (h2 : n ≤ 9223372036854775807) (a : Option Addr) (k c : Nat) (zs : List Int) (hl : IRow w a k zs) (hk : k ≤ 17592186043904) (hkc : k ≤ c) (a' : Option Addr) (m c' : Nat) (ys : List Int) (hl' : IRow w a' m ys) (hm : m ≤ 17592186043904) (hnil : a' = none → m = 0 ∧ c' = 0) :
    Calls Try.prog 5 #[.int .i64 n, .slice a k c, .slice a' m c'] w fun e w' => e = .returned (.bool true) ∧ After w w' := by
  have HW := hideIt (works_any w)
  have HO := hideIt (fun W => odd_any n W h1 h2)
  have hmay := oddN_may n
  generalize oddN n = N at *
  have HM := hideIt hmay
  have n1 : (1 : Int) ≤ (N : Int) := hmay.1
  have n2 : (N : Int) ≤ 15 := hmay.2.1
  have HLn := hideIt (And.intro hl.1 hl'.1)
  have HL := hideIt hl
  have HL' := hideIt hl'
  have HNI := hideIt hnil
  have k0 : (k : Int) ≤ 17592186043904 := by omega
  have k1 : (k : Int) ≤ (c : Int) := by omega
  have m0 : (m : Int) ≤ 17592186043904 := by omega
  clear h1 h2 hmay hl hl' hnil
  go_enter Try.func5, Try.ntmps5
  go_wp2_with fail
  refine HW.out.mono ?_
  rintro e w1 ⟨rfl, a1⟩
  have A1 := hideIt a1
  clear a1 HW
  by_cases hkN : k < N
  · have i1 : (k : Int) < (N : Int) := by omega
    go_wp2_with (go_at_call 13; refine (HO.out _).mono ?_; rintro e w' ⟨rfl, rfl⟩)
    go_ret
    exact ⟨rfl, A1.out⟩
  · have i1 : ¬ (k : Int) < (N : Int) := by omega
    obtain ⟨b, off, rfl, hb, -⟩ := HL.out.cellAt (i := 0) (by omega)
    have hkN' : N ≤ k := by omega
    have i2 : (N : Int) ≤ (c : Int) := by omega
    have i3 : N ≤ c := by omega
    go_wp2_with (go_at_call 13; refine (HO.out _).mono ?_; rintro e w' ⟨rfl, rfl⟩)
    clear HO
    go_loopw [7, 9] (fun o i wr => ∃ j : Nat, j ≤ N ∧ i = .int .i64 j ∧ OInts wr w.heap.size o (trn N zs j) ∧ After w wr) (fun _ i _ => N - (intOf i).toNat)
    case atStart => exact ⟨0, Nat.zero_le _, rfl, own_nil _ _, A1.out⟩
    case round =>
      obtain ⟨j, hj, rfl, own, af⟩ := hrel
      by_cases hjN : j < N
      · have j1 : (j : Int) < (N : Int) := by omega
        obtain ⟨r, hr⟩ : ∃ r, r = rnd N j := ⟨_, rfl⟩
        have hrN : r < N := by rw [hr]; exact Nat.mod_lt _ (by omega)
        have e1 : ((j : Int) * 2 + 1) % (N : Int) = (r : Int) := by rw [hr]; unfold rnd; rw [Int.natCast_emod]; congr 1; omega
        have j2 : (r : Int) < (N : Int) := by omega
        have j3 : ¬ (N : Int) = 0 := by omega
        obtain ⟨b', off', ea, -, e0⟩ := (HL.out.after af).cellAt (i := r) (by omega)
        cases ea
        have hs := trn_succ N zs j
        rw [← hr] at hs
        generalize zs.getD r 0 = x at *
        have own2 := own_after own (After.rfl.alloc (.cells #[.int .i64 x] 3))
        have hrow : IRow (wr.alloc (.cells #[.int .i64 x] 3)) (some ⟨wr.heap.size, 0, none⟩) 1 [x] := lit_irow (heap_alloc_new wr _) rfl rfl
        have HO := hideIt own2
        have HR := hideIt hrow
        have HA := hideIt (And.intro own (And.intro af hs))
        have HB := hideIt (show w.heap.size ≤ (wr.alloc (.cells #[.int .i64 x] 3)).heap.size by have := af.size; simp; omega)
        have HZ := hideIt (show (trn N zs j).length + 1 ≤ 17592186044416 by rw [trn_length]; omega)
        clear own2 hrow own af hs hr hrN
        go_wp2_with (at_builtin; refine app_ints rfl (.tmp 29) (.tmp 38) rfl w.heap.size _ (trn N zs j) rfl HO.out (some ⟨wr.heap.size, 0, none⟩) 1 1 [x] rfl HR.out (fun h => by cases h) HZ.out HB.out ?_)
        intro v3 w3 o3 b3
        rw [← HA.out.2.2] at o3
        have HF := hideIt (And.intro o3 (HA.out.2.1.then ((After.rfl.alloc _).but.then b3 (fun i _ t => t)) (fun i hi t => by have := (own_lt HA.out.1 t).1; omega)))
        clear o3 b3
        go_wp2
        go_roundw
        case rel => exact ⟨j + 1, by omega, by go_num, HF.out⟩
        case measure => simp [intOf]; omega
      · obtain rfl : j = N := by omega
        have j1 : ¬ (j : Int) < (j : Int) := by omega
        obtain ⟨ta, tc, rfl, ti, -, -, -⟩ := own_irow own
        rw [trn_length] at ti ⊢
        have HT := hideIt ti
        have HAF := hideIt af
        have HIR' := hideIt (HL'.out.after af)
        have HSZ := hideIt (show w.heap.size ≤ wr.heap.size from af.size)
        have HWR := hideIt (Nat.le_refl wr.heap.size)
        have HZ := hideIt (show ([] : List Int).length + m ≤ 17592186044416 by simp; omega)
        have HN0 := hideIt (own_nil wr wr.heap.size)
        clear own af ti
        go_wp2_with (at_builtin; refine app_ints rfl (.tmp 40) (.tmp 41) rfl wr.heap.size _ [] rfl HN0.out a' m c' ys rfl HIR'.out HNI.out HZ.out HWR.out ?_)
        intro v3 w3 o3 b3
        have a3 : After wr w3 := b3.mono (fun i hi t => by cases t)
        have o3 : OInts w3 wr.heap.size v3 ys := o3
        have HO3 := hideIt o3
        have HA3 := hideIt a3
        have HIR := hideIt (IRow.take (HL.out.after (HAF.out.trans a3)) hkN')
        have HZ2 := hideIt (show ys.length + j ≤ 17592186044416 by have := HLn.out; omega)
        have HS3 := hideIt a3.size
        clear o3 b3 a3
        go_wp2_with (at_builtin; refine app_ints rfl (.tmp 43) (.tmp 44) rfl wr.heap.size _ ys rfl HO3.out (some ⟨b, off, none⟩) j c (zs.take j) rfl HIR.out (fun h => by cases h) HZ2.out HS3.out ?_)
        intro v4 w4 o4 b4
        have a4 : After wr w4 := HA3.out.then b4 (fun i hi t => by have := (own_lt HO3.out t).1; omega)
        obtain ⟨la, lc, rfl, li, -, -, -⟩ := own_irow o4
        have hzj : (zs.take j).length = j := by rw [List.length_take]; have := HLn.out; omega
        obtain ⟨Q, hQ⟩ : ∃ Q : Nat, Q = (ys ++ zs.take j).length := ⟨_, rfl⟩
        rw [← hQ] at li ⊢
        have hQ2 : Q = ys.length + j := by rw [hQ, List.length_append, hzj]
        have hQb : Q ≤ 17592186044416 := by have := HZ2.out; omega
        have hj0 : 0 < j := by omega
        have hwj : After w w4 := HAF.out.trans a4
        have R1 := hideIt (run_any w4 j HM.out _ j c _ (IRow.take (HL.out.after hwj) hkN') (by omega))
        have R2 := hideIt (fun W (h : After wr W) => run_any W j HM.out _ j tc _ (HT.out.after h) (by omega))
        have R3 := hideIt (fun W (h : After w4 W) => run_any W j HM.out _ Q lc _ (li.after h) hQb)
        have v2 : med j (trn j zs j) (j - 1) = med j (zs.take j) (j - 1) := med_same hj0 (trn_perm HM.out (by have := HLn.out; omega)).symm hzj
        have v3 : med j (ys ++ zs.take j) (Q - 1) = med j (zs.take j) (j - 1) := by rw [hQ2]; exact med_long hj0 ys hzj
        have HV := hideIt (And.intro v2 v3)
        have HA4 := hideIt (And.intro hwj a4)
        obtain ⟨J, hJ⟩ : ∃ J : Nat, J = j - 1 := ⟨_, rfl⟩
        obtain ⟨Q1, hQ1⟩ : ∃ Q1 : Nat, Q1 = Q - 1 := ⟨_, rfl⟩
        have g1 : (j : Int) - 1 = (J : Int) := by omega
        have g2 : (Q : Int) - 1 = (Q1 : Int) := by omega
        have g3 : (J : Int) < (j : Int) := by omega
        have g4 : (Q1 : Int) < (Q : Int) := by omega
        have g5 : (Q : Int) ≤ 17592186044416 := by omega
        have g6 : J < j := by omega
        have g7 : Q1 < Q := by omega
        rw [← hJ, ← hQ1] at HV
        clear v2 v3 hwj a4 li o4 b4 hQ hQ2 hQb hJ hQ1 hzj hj0
        go_wp2_with fail
        refine R1.out.mono ?_
        rintro e w5 ⟨u5, rfl, o5, a5⟩
        obtain ⟨pa, pc, rfl, i5, -, -, -⟩ := own_irow o5
        rw [meds_length] at i5 ⊢
        have I5 := hideIt (And.intro i5 a5)
        clear o5 i5 a5 R1
        go_wp2_with fail
        refine (R2.out _ (HA4.out.2.trans I5.out.2)).mono ?_
        rintro e w6 ⟨u6, rfl, o6, a6⟩
        obtain ⟨qa, qc, rfl, i6, -, -, -⟩ := own_irow o6
        rw [meds_length] at i6 ⊢
        have I6 := hideIt (And.intro i6 a6)
        clear o6 i6 a6 R2
        go_wp2_with fail
        refine (R3.out _ (I5.out.2.trans I6.out.2)).mono ?_
        rintro e w7 ⟨u7, rfl, o7, a7⟩
        obtain ⟨ra, rc, rfl, i7, -, -, -⟩ := own_irow o7
        rw [meds_length] at i7 ⊢
        obtain ⟨b5, f5, rfl, -, e5⟩ := (I5.out.1.after (I6.out.2.trans a7)).cellAt g6
        obtain ⟨b6, f6, rfl, -, e6⟩ := (I6.out.1.after a7).cellAt g6
        obtain ⟨b7, f7, rfl, -, e7⟩ := i7.cellAt g7
        rw [meds_getD g6] at e5
        rw [meds_getD g6, HV.out.1] at e6
        rw [meds_getD g7, HV.out.2] at e7
        generalize med j (zs.take j) J = x at *
        have HF := hideIt (((HA4.out.1.trans I5.out.2).trans I6.out.2).trans a7)
        clear o7 i7 a7 R3 I5 I6 HA4 HV
        go_wp2_with fail
        go_quiet (fail)
        go_wp2
        go_ret
        exact ⟨rfl, HF.out.draws _⟩
end Go.Proofs.Ytjddkoadmoagjaa
