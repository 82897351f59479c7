/-
  The statements' helpers: Bring, Abs, EqInts, run, works.
-/
import Derived.Test.YtlfaphceeclphaaIrB
namespace Go.Proofs.Ytlfaphceeclphaa
open Go.RowKit
set_option maxRecDepth 8000
def broughtTo (i : Int) (m : Nat) : Nat := (i % (m : Int)).toNat
theorem broughtTo_lt (i : Int) {m : Nat} (h : 0 < m) : broughtTo i m < m := by
  unfold broughtTo
  have := Int.emod_lt_of_pos i (show (0 : Int) < (m : Int) by omega)
  have := Int.emod_nonneg i (show (m : Int) ≠ 0 by omega)
  omega
theorem bring_any (i : Int) (m : Nat) (w : World) (_h1 : -9223372036854775808 ≤ i) (_h2 : i ≤ 9223372036854775807) (hm : 0 < m) (hm2 : (m : Int) ≤ 1073741824) :
    Calls Try.prog 13 #[.int .i64 i, .int .i64 m] w fun e w' => e = .returned (.int .i64 (broughtTo i m : Nat)) ∧ w' = w := by
  have hmp : (0 : Int) < (m : Int) := by omega
  have b1 := Int.lt_tmod_of_pos i hmp
  have b2 := Int.tmod_lt_of_pos i hmp
  have m1 := Int.emod_nonneg i (show (m : Int) ≠ 0 by omega)
  have m2 := Int.emod_lt_of_pos i hmp
  have e1 : (0 ≤ i.tmod m ∧ i.tmod m = i % m) ∨ (i.tmod m < 0 ∧ i.tmod m = i % m - m) := by
    by_cases h0 : 0 ≤ i
    · left
      have : i.tmod m = i % m := Int.tmod_eq_emod_of_nonneg h0
      omega
    · have e := Int.tmod_eq_emod (a := i) (b := (m : Int))
      by_cases hd : (m : Int) ∣ i
      · left
        rw [if_pos (.inr hd)] at e
        omega
      · right
        rw [if_neg (by intro h; rcases h with h | h; exact h0 h; exact hd h)] at e
        omega
  have HK := hideIt (show (broughtTo i m : Int) = i % m by unfold broughtTo; omega)
  have hne : ¬ (m : Int) = 0 := by omega
  generalize i % (m : Int) = e at *
  have HE := hideIt e1
  clear e1
  go_enter Try.func13, Try.ntmps13
  go_wp2
  all_goals go_ret
  · exact ⟨ret_int (by have := HK.out; have := HE.out; first | omega | (unfold wrap64; omega)), rfl⟩
  · exact ⟨ret_int (by have := HK.out; have := HE.out; omega), rfl⟩
theorem abs_any (a : Int) (w : World) (h1 : -1000000000000 ≤ a) (h2 : a ≤ 1000000000000) : Calls Try.prog 16 #[.int .i64 a] w fun e w' => e = .returned (.int .i64 (ab a)) ∧ w' = w := by
  rcases (by omega : a < 0 ∨ ¬ a < 0) with h | h
  all_goals
    have hr : ab a = if a < 0 then -a else a := by unfold ab; split <;> omega
    have HR := hideIt hr
    clear hr
    go_enter Try.func16, Try.ntmps16
    go_wp2
    go_ret
    refine ⟨ret_int ?_, rfl⟩
    rw [HR.out]
    first | rw [if_pos (by omega)] | rw [if_neg (by omega)]
theorem IRow.cellAt {w : World} {a : Option Addr} {n : Nat} {zs : List Int} (h : IRow w a n zs) {i : Nat} (hi : i < n) : ∃ b off, a = some ⟨b, off, none⟩ ∧ b < w.heap.size ∧ w.cell? ⟨b, off + i, none⟩ = some (.int .i64 (zs.getD i 0)) := h.2 i hi
set_option maxHeartbeats 1000000 in
theorem eqInts_same (w : World) (a a' : Option Addr) (n c c' : Nat) (xs : List Int) (hx : IRow w a n xs) (hy : IRow w a' n xs) (hn : n ≤ 17592186044416) :
    Calls Try.prog 17 #[.slice a n c, .slice a' n c'] w fun e w' => e = .returned (.bool true) ∧ After w w' := by
  have HX := hideIt hx
  have HY := hideIt hy
  have hne : ((n : Int) != (n : Int)) = false := by simp
  have hn' : (n : Int) ≤ 17592186044416 := by omega
  clear hx hy
  go_enter Try.func17, Try.ntmps17
  go_wp2_with fail
  go_loopw [5] (fun i wr => ∃ j : Nat, j ≤ n ∧ i = .int .i64 j ∧ After w wr) (fun i _ => n - (intOf i).toNat)
  case atStart => exact ⟨0, Nat.zero_le _, rfl, After.rfl⟩
  case round =>
    obtain ⟨j, hj, rfl, af⟩ := hrel
    by_cases hjn : j < n
    · have i1 : (j : Int) < (n : Int) := by omega
      obtain ⟨b, off, rfl, hb, e1⟩ := (HX.out.after af).cellAt hjn
      obtain ⟨b', off', rfl, hb', e2⟩ := (HY.out.after af).cellAt hjn
      have AF := hideIt af
      clear af
      generalize xs.getD j 0 = x at *
      have hb : (x != x) = false := by simp
      go_wp2
      go_region
      go_wp2
      go_roundw
      case rel => exact ⟨j + 1, by omega, by go_num, But.drew AF.out⟩
      case measure => simp [intOf]; omega
    · have i1 : ¬ (j : Int) < (n : Int) := by omega
      have AF := hideIt af
      clear af
      go_wp2
      go_ret
      exact ⟨rfl, AF.out⟩
set_option maxHeartbeats 1000000 in
theorem run_any (w : World) (N : Nat) (h : May (N : Int)) (a : Option Addr) (k c : Nat) (zs : List Int) (hr : IRow w a k zs) (hk : k ≤ 17592186044416) :
    Calls Try.prog 14 #[.int .i64 (N : Int), .slice a k c] w fun e w' => ∃ v, e = .returned v ∧ OInts w' w.heap.size v (slws N zs k) ∧ After w w' := by
  have HN := hideIt (irNew_ok w N h)
  have x0 : Sl (w.alloc (.cells #[.int .i64 (N : Int), .pointer none] 42)) w.heap.size (w.heap.size + 1) N none := ⟨heap_alloc_new w _, h⟩
  have a0 : After w (w.alloc (.cells #[.int .i64 (N : Int), .pointer none] 42)) := After.rfl.alloc _
  have z0 : (w.alloc (.cells #[.int .i64 (N : Int), .pointer none] 42)).heap.size = w.heap.size + 1 := by simp
  have hlen := hr.1
  generalize w.alloc (.cells #[.int .i64 (N : Int), .pointer none] 42) = w1 at HN x0 a0 z0
  have HX := hideIt (And.intro x0 (And.intro a0 z0))
  have HR := hideIt hr
  have HL := hideIt hlen
  have k0 : (k : Int) ≤ 17592186044416 := by omega
  clear x0 a0 z0 hr hlen h
  go_enter Try.func14, Try.ntmps14
  go_wp2_with fail
  refine HN.out.mono ?_
  rintro e w' ⟨rfl, rfl⟩
  clear HN
  go_wp2_with fail
  go_loopw [7, 8] (fun o i wr => ∃ (j : Nat), j ≤ k ∧ i = .int .i64 j ∧ OInts wr (w.heap.size + 2) o (slws N zs j) ∧ Sl wr w.heap.size (w.heap.size + 1) N (sla N zs j) ∧ After w wr ∧ (j = 0 → wr.heap.size = w.heap.size + 1) ∧ (0 < j → w.heap.size + 2 ≤ wr.heap.size)) (fun _ i _ => k - (intOf i).toNat)
  case atStart => exact ⟨0, Nat.zero_le _, rfl, own_nil _ _, by rw [sla_zero]; exact HX.out.1, HX.out.2.1, fun _ => HX.out.2.2, fun h => absurd h (by omega)⟩
  case round =>
    obtain ⟨j, hj, rfl, hown, hav, af, hsz0, hsz⟩ := hrel
    clear HX
    by_cases hjk : j < k
    · have i1 : (j : Int) < (k : Int) := by omega
      obtain ⟨b, off, rfl, hb, e1⟩ := (HR.out.after af).cellAt hjk
      have hzl : j < zs.length := by have := HL.out; omega
      have hnone : sla N zs j = none → j = 0 := fun h => by
        cases j with
        | zero => rfl
        | succ q => rw [sla_succ N (by omega)] at h; cases h
      have HP := hideIt (irPush_any hav (fun h => hsz0 (hnone h)) (zs.getD j 0))
      rw [← slw_nxo N hzl, ← sla_slw hzl] at HP
      have HS := hideIt (And.intro hown (And.intro af (And.intro hsz0 (And.intro hsz hnone))))
      have HJ := hideIt (show j = 0 → sla N zs j = none from fun h => by rw [h, sla_zero])
      clear hown hav af hsz hsz0 hnone hzl
      generalize zs.getD j 0 = x at *
      go_wp2_with fail
      refine HP.out.mono ?_
      rintro e w2 ⟨rfl, md2, b2, g2⟩
      obtain ⟨hown, af, hsz0, hsz, hnone⟩ := HS.out
      generalize hmm : slw N zs j = y at *
      have hsz2 : w.heap.size + 2 ≤ w2.heap.size := by
        by_cases h0 : j = 0
        · have e3 := g2 (HJ.out h0)
          have e4 := hsz0 h0
          omega
        · have e3 := hsz (by omega)
          have e4 := b2.size
          omega
      have hown2 : OInts w2 (w.heap.size + 2) _ (slws N zs j) := own_but hown b2 (fun q hq t => by
        have h1 := (own_lt hown hq).1
        rcases t with t | t <;> omega)
      have af2 : After w w2 := af.then b2 (fun i hi t => by rcases t with t | t <;> omega)
      have hown3 := own_after hown2 (After.rfl.alloc (.cells #[.int .i64 y] 3))
      have hrow : IRow (w2.alloc (.cells #[.int .i64 y] 3)) (some ⟨w2.heap.size, 0, none⟩) 1 [y] := lit_irow (heap_alloc_new w2 _) rfl rfl
      have HO := hideIt hown3
      have HW := hideIt hrow
      have HA := hideIt (And.intro md2 (And.intro af2 (And.intro hsz2 hmm)))
      have HZ := hideIt (show (slws N zs j).length + 1 ≤ 17592186044416 by rw [slws_length]; omega)
      have HB := hideIt (show w.heap.size + 2 ≤ (w2.alloc (.cells #[.int .i64 y] 3)).heap.size by simp; omega)
      have HT := hideIt hown2
      clear hown2 hown3 hrow md2 af2 hsz2 hmm b2 hown af hsz hsz0 hnone g2 HS HP HJ
      go_wp2_with (at_builtin; refine app_ints rfl (.tmp 35) (.tmp 37) rfl (w.heap.size + 2) _ (slws N zs j) rfl HO.out (some ⟨w2.heap.size, 0, none⟩) 1 1 [y] rfl HW.out (fun h => by cases h) HZ.out HB.out ?_)
      intro v3 w3 o3 b3
      obtain ⟨md2, af2, hsz2, hmm⟩ := HA.out
      have b4 : But (From (w.heap.size + 2)) w2 w3 := (After.rfl.alloc _).but.then b3 (fun i hi t => (own_lt HT.out t).1)
      rw [← hmm, ← slws_succ] at o3
      have HF := hideIt (And.intro o3 (And.intro (md2.but b4 (fun t => by have : w.heap.size + 2 ≤ w.heap.size := t; omega) (fun t => by have : w.heap.size + 2 ≤ w.heap.size + 1 := t; omega)) (And.intro (af2.then b4 (fun i hi t => by have : w.heap.size + 2 ≤ i := t; omega)) (Nat.le_trans hsz2 b4.size))))
      clear o3 b3 b4 md2 af2 hsz2 hmm
      go_wp2
      go_roundw
      case rel => exact ⟨j + 1, by omega, by go_num, HF.out.1, HF.out.2.1, HF.out.2.2.1, fun h => absurd h (by omega), fun _ => HF.out.2.2.2⟩
      case measure => simp [intOf]; omega
    · obtain rfl : j = k := by omega
      have i1 : ¬ (j : Int) < (j : Int) := by omega
      have HF := hideIt (And.intro (own_base (C := w.heap.size) hown (fun q hq => by have := (own_lt hown hq).1; omega)) af)
      clear hown hav af hsz hsz0
      go_wp2
      go_ret
      exact ⟨_, rfl, HF.out⟩
theorem slws_works : slws 500 [100, 200, 201, 0, -1] 5 = [100, 150, 176, 88, 43] := by decide
set_option maxHeartbeats 1000000 in
theorem works_any (w : World) : Calls Try.prog 12 #[] w fun e w' => e = .returned (.bool true) ∧ After w w' := by
  have hrow : IRow (w.alloc (.cells #[.int .i64 100, .int .i64 200, .int .i64 201, .int .i64 0, .int .i64 (-1)] 3)) (some ⟨w.heap.size, 0, none⟩) 5 [100, 200, 201, 0, -1] := lit_irow (heap_alloc_new w _) rfl rfl
  have a1 : After w (w.alloc (.cells #[.int .i64 100, .int .i64 200, .int .i64 201, .int .i64 0, .int .i64 (-1)] 3)) := After.rfl.alloc _
  have HR := hideIt (run_any _ 500 (by unfold May; omega) _ 5 5 _ hrow (by omega))
  rw [slws_works] at HR
  have HA := hideIt a1
  clear hrow a1
  go_enter Try.func12, Try.ntmps12
  go_wp2_with fail
  refine HR.out.mono ?_
  rintro e w2 ⟨v, rfl, own, a2⟩
  obtain ⟨a, c, rfl, ir, -, -, -⟩ := own_irow own
  have ir2 := ir.after (After.rfl.alloc (.cells #[.int .i64 100, .int .i64 150, .int .i64 176, .int .i64 88, .int .i64 43] 3))
  have hrow : IRow (w2.alloc (.cells #[.int .i64 100, .int .i64 150, .int .i64 176, .int .i64 88, .int .i64 43] 3)) (some ⟨w2.heap.size, 0, none⟩) 5 [100, 150, 176, 88, 43] := lit_irow (heap_alloc_new w2 _) rfl rfl
  have HQ := hideIt (fun c c' => eqInts_same _ _ _ 5 c c' _ ir2 hrow (by omega))
  have HB := hideIt ((HA.out.trans a2).alloc (.cells #[.int .i64 100, .int .i64 150, .int .i64 176, .int .i64 88, .int .i64 43] 3))
  clear own a2 ir ir2 hrow HR HA
  go_wp2_with fail
  refine (HQ.out _ _).mono ?_
  rintro e w3 ⟨rfl, a3⟩
  have HF := hideIt (HB.out.trans a3)
  clear a3 HB HQ
  go_wp2
  go_ret
  exact ⟨rfl, HF.out⟩
end Go.Proofs.Ytlfaphceeclphaa
