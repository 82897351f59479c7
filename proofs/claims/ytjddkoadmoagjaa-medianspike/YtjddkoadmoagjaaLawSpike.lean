/-
  MedianSpike.
-/
import Derived.Test.YtjddkoadmoagjaaMdT
import Derived.Deep.QuietTactic
import Derived.BigQuiet
namespace Go.Proofs.Ytjddkoadmoagjaa
open Go.RowKit
set_option maxRecDepth 8000
/-- How many are unlike a number. -/
def unlike (c : Int) (xs : List Int) : Nat := xs.countP (fun y => !decide (y = c))
theorem unlike_cons (c y : Int) (r : List Int) : unlike c (y :: r) = unlike c r + (if y = c then 0 else 1) := by
  unfold unlike
  rw [List.countP_cons]
  by_cases h : y = c <;> simp [h]
/-- All alike but one at most. -/
theorem mid_alike {xs : List Int} {c : Int} (h : 0 < xs.length) (hd : unlike c xs = 0 ∨ (unlike c xs ≤ 1 ∧ 3 ≤ xs.length)) : mid xs = c := by
  refine (mid_iff h c).1 ?_
  have e1 : less c xs ≤ unlike c xs := List.countP_mono_left (fun y _ hy => by simp at hy ⊢; omega)
  have e2 : xs.length ≤ noMore c xs + unlike c xs := by
    clear e1 hd h
    induction xs with
    | nil => simp
    | cons y r ih =>
      have e3 : noMore c (y :: r) = noMore c r + (if y ≤ c then 1 else 0) := by unfold noMore; rw [List.countP_cons]; by_cases hy : y ≤ c <;> simp [hy]
      rw [unlike_cons, e3, List.length_cons]
      by_cases hy : y = c
      · rw [if_pos hy, if_pos (by omega)]; omega
      · rw [if_neg hy]; omega
  unfold place
  omega
/-- Alike but for one. -/
def spk (M : Nat) (v s : Int) : List Int := (List.replicate (3 * M) v).set M s
theorem spk_length (M : Nat) (v s : Int) : (spk M v s).length = 3 * M := by simp [spk]
theorem spk_med {M i : Nat} (v s : Int) (hM : 3 ≤ M) (hi : i < 3 * M) : med M (spk M v s) i = clampZ v := by
  unfold med
  have hl : (lastN M (clamps ((spk M v s).take (i + 1)))).length = min M (i + 1) := by
    rw [lastN_length, clamps_length, List.length_take, spk_length]; omega
  have hsub : unlike (clampZ v) (lastN M (clamps ((spk M v s).take (i + 1)))) ≤ unlike (clampZ v) (clamps ((spk M v s).take (i + 1))) := (List.drop_sublist _ _).countP_le
  have e : clamps ((spk M v s).take (i + 1)) = ((List.replicate (min (i + 1) (3 * M)) (clampZ v)).set M (clampZ s)) := by
    unfold clamps spk
    rw [List.take_set, List.map_set, List.take_replicate, List.map_replicate]
  have h0 : ∀ q, unlike (clampZ v) (List.replicate q (clampZ v)) = 0 := fun q => by unfold unlike; rw [List.countP_replicate]; simp
  have h1 : unlike (clampZ v) (clamps ((spk M v s).take (i + 1))) ≤ 1 ∧ (i + 1 ≤ M → unlike (clampZ v) (clamps ((spk M v s).take (i + 1))) = 0) := by
    rw [e]
    by_cases hc : i + 1 ≤ M
    · rw [List.set_eq_of_length_le (by rw [List.length_replicate]; omega), h0]
      omega
    · refine ⟨?_, fun h => absurd h hc⟩
      have h2 := h0 (min (i + 1) (3 * M))
      unfold unlike at h2 ⊢
      rw [List.countP_set (by rw [List.length_replicate]; omega), h2]
      split <;> split <;> omega
  refine mid_alike (by omega) ?_
  by_cases hc : i + 1 ≤ M
  · left
    have := h1.2 hc
    omega
  · right
    omega
theorem mid_one (y : Int) : mid [y] = y := by
  refine (mid_iff (by simp) y).1 ?_
  unfold less noMore place
  simp
theorem one_med (v s : Int) : meds 1 [v, s] 2 = [clampZ v, clampZ s] := by
  show [mid [clampZ v], mid [clampZ s]] = _
  rw [mid_one, mid_one]
/-- A place of a row of one's own is written over. -/
theorem own_put {W : World} {B c k : Nat} {a : Option Addr} {xs : List Int} (ho : OInts W B (.slice a xs.length c) xs) (hk : k < xs.length) (y : Int) :
    ∃ g, a = some ⟨g, 0, none⟩ ∧ W.cell? ⟨g, k, none⟩ = some (.int .i64 (xs.getD k 0)) ∧ W.frozen? ⟨g, k, none⟩ = false ∧ B ≤ g ∧
      OInts (W.setCell ⟨g, k, none⟩ (.int .i64 y)) B (.slice a xs.length c) (xs.set k y) := by
  rcases ho.2 with ⟨e, h0⟩ | ⟨g, cap, cur, e, _⟩
  · omega
  · cases e
    refine ⟨g, rfl, ?_, ho.frozenAt k, (ho.lt g rfl).1, ?_⟩
    · rw [ho.cellAt k (by omega)]
      simp [i64s, hk]
    · have h1 := (ho.stored k (.int .i64 y)).1
      have e : (i64s xs).set k (.int .i64 y) = i64s (xs.set k y) := by unfold i64s; rw [List.map_set]
      rw [e] at h1
      have e2 : xs.length = (xs.set k y).length := by rw [List.length_set]
      rw [e2] at h1 ⊢
      exact h1
set_option maxHeartbeats 4000000 in
theorem law_spike (w : World) (n : Int) (h1 : -9223372036854775808 ≤ n) (h2 : n ≤ 9223372036854775807) (v s : Int) :
    Calls Try.prog 6 #[.int .i64 n, .int .i64 v, .int .i64 s] w fun e w' => e = .returned (.bool true) ∧ After w w' := by
  have HW := hideIt (works_any w)
  have HO := hideIt (fun W => odd_any n W h1 h2)
  have hmay := oddN_may n
  generalize oddN n = N at *
  obtain ⟨M, hM⟩ : ∃ M : Nat, M = max N 3 := ⟨_, rfl⟩
  have hmx : max (N : Int) 3 = (M : Int) := by omega
  have hmay2 : May (M : Nat) := by unfold May at *; omega
  have HM := hideIt hmay2
  have m1 : (3 : Int) ≤ (M : Int) := by omega
  have m2 : (M : Int) ≤ 15 := hmay2.2.1
  have m3 : 3 ≤ M := by omega
  have n2 : (N : Int) ≤ 15 := hmay.2.1
  clear h1 h2 hmay hmay2 hM
  go_enter Try.func6, Try.ntmps6
  go_wp2_with fail
  refine HW.out.mono ?_
  rintro e w1 ⟨rfl, a1⟩
  have A1 := hideIt a1
  clear a1 HW
  go_wp2_with (go_at_call 13; refine (HO.out _).mono ?_; rintro e w' ⟨rfl, rfl⟩)
  clear HO
  go_loopw [7, 8] (fun o i wr => ∃ j : Nat, j ≤ 3 * M ∧ i = .int .i64 j ∧ OInts wr w.heap.size o (List.replicate j v) ∧ After w wr) (fun _ i _ => 3 * M - (intOf i).toNat)
  case atStart => exact ⟨0, Nat.zero_le _, rfl, own_nil _ _, A1.out⟩
  case round =>
    obtain ⟨j, hj, rfl, own, af⟩ := hrel
    by_cases hjk : j < 3 * M
    · have i1 : (j : Int) < 3 * (M : Int) := by omega
      have i2 : (j : Int) ≤ 45 := by omega
      have own2 := own_after own (After.rfl.alloc (.cells #[.int .i64 v] 3))
      have hrow : IRow (wr.alloc (.cells #[.int .i64 v] 3)) (some ⟨wr.heap.size, 0, none⟩) 1 [v] := lit_irow (heap_alloc_new wr _) rfl rfl
      have HO := hideIt own2
      have HR := hideIt hrow
      have HA := hideIt (And.intro own af)
      have HB := hideIt (show w.heap.size ≤ (wr.alloc (.cells #[.int .i64 v] 3)).heap.size by have := af.size; simp; omega)
      have HZ := hideIt (show (List.replicate j v).length + 1 ≤ 17592186044416 by rw [List.length_replicate]; omega)
      clear own2 hrow own af
      go_wp2_with (at_builtin; refine app_ints rfl (.tmp 23) (.tmp 25) rfl w.heap.size _ (List.replicate j v) rfl HO.out (some ⟨wr.heap.size, 0, none⟩) 1 1 [v] rfl HR.out (fun h => by cases h) HZ.out HB.out ?_)
      intro v3 w3 o3 b3
      rw [← List.replicate_succ'] at o3
      have HF := hideIt (And.intro o3 (HA.out.2.then ((After.rfl.alloc _).but.then b3 (fun i _ t => t)) (fun i hi t => by have := (own_lt HA.out.1 t).1; omega)))
      clear o3 b3
      go_wp2
      go_roundw
      case rel => exact ⟨j + 1, by omega, by go_num, HF.out⟩
      case measure => simp [intOf]; omega
    · obtain rfl : j = 3 * M := by omega
      have i1 : ¬ (((3 * M : Nat)) : Int) < 3 * (M : Int) := by omega
      obtain ⟨la, lc, rfl, -, -, hlc, -⟩ := own_irow own
      obtain ⟨g, rfl, e1, f1, hg, own2⟩ := own_put (k := M) own (by rw [List.length_replicate]; omega) s
      rw [List.length_replicate] at own2 ⊢
      obtain ⟨T, hT⟩ : ∃ T : Nat, T = 3 * M := ⟨_, rfl⟩
      have own3 : OInts (wr.setCell ⟨g, M, none⟩ (.int .i64 s)) w.heap.size (.slice (some ⟨g, 0, none⟩) T lc) (spk M v s) := by
        rw [hT]
        have e : (spk M v s).length = ((List.replicate (3 * M) v).set M s).length := rfl
        exact own2
      have af2 : After w (wr.setCell ⟨g, M, none⟩ (.int .i64 s)) := af.set _ hg _
      rw [← hT] at i1 ⊢
      have t1 : (T : Int) = 3 * (M : Int) := by omega
      have t2 : (M : Int) < (T : Int) := by omega
      have hir : IRow (wr.setCell ⟨g, M, none⟩ (.int .i64 s)) (some ⟨g, 0, none⟩) T (spk M v s) := by
        obtain ⟨a', c', e', ir, -, -, -⟩ := own_irow own3
        rw [spk_length, ← hT] at e' ir
        cases e'
        exact ir
      generalize (List.replicate (3 * M) v).getD M 0 = e0 at e1
      have HRUN := hideIt (fun c => run_any _ M HM.out _ T c _ hir (by omega))
      have HA := hideIt af2
      have HT := hideIt hT
      clear own own2 own3 af af2 hir hT hlc
      go_wp2_with fail
      refine (HRUN.out _).mono ?_
      rintro e w3 ⟨v3, rfl, o3, a3⟩
      obtain ⟨oa, oc, rfl, oi, -, -, -⟩ := own_irow o3
      rw [meds_length] at oi ⊢
      have hcv : ∀ i, i < T → (meds M (spk M v s) T).getD i 0 = clampZ v := fun i hi => by
        rw [List.getD_eq_getElem?_getD, meds_at M _ hi, spk_med v s m3 (by rw [HT.out] at hi; exact hi)]
        rfl
      have hrow : IRow (w3.alloc (.cells #[.int .i64 v, .int .i64 s] 3)) (some ⟨w3.heap.size, 0, none⟩) 2 [v, s] := lit_irow (heap_alloc_new w3 _) rfl rfl
      have HR1 := hideIt (run_any _ 1 (by unfold May; omega) _ 2 2 _ hrow (by omega))
      rw [one_med] at HR1
      have HA3 := hideIt (And.intro (HA.out.trans (a3.alloc (.cells #[.int .i64 v, .int .i64 s] 3))) (oi.after (After.rfl.alloc (.cells #[.int .i64 v, .int .i64 s] 3))))
      have HCV := hideIt hcv
      have HQv := hideIt (fun W => clamp_any v W)
      have HQs := hideIt (fun W => clamp_any s W)
      generalize meds M (spk M v s) T = ms at *
      generalize clampZ v = cv at *
      generalize clampZ s = cs at *
      clear hcv hrow o3 a3 oi HRUN HA
      go_wp2_with fail
      refine HR1.out.mono ?_
      rintro e w4 ⟨v4, rfl, o4, a4⟩
      obtain ⟨pa, pc, rfl, pi, -, -, -⟩ := own_irow o4
      obtain ⟨pb, po, rfl, hpb, p0⟩ := pi.cellAt (i := 0) (by simp)
      obtain ⟨pb', po', epa, -, p1⟩ := pi.cellAt (i := 1) (by simp)
      cases epa
      rw [Nat.add_zero] at p0
      have p0 : w4.cell? ⟨pb, po, none⟩ = some (.int .i64 cv) := p0
      have p1 : w4.cell? ⟨pb, po + 1, none⟩ = some (.int .i64 cs) := p1
      have HF := hideIt (And.intro (HA3.out.1.trans a4) (HA3.out.2.after a4))
      have q1 : ((T : Int) != 3 * (M : Int)) = false := by simp; omega
      have q2 : (cv != cv) = false := by simp
      have q3 : (cs != cs) = false := by simp
      clear o4 pi a4 HR1 HA3
      have e2 : ([cv, cs].length) = 2 := rfl
      rw [e2]
      go_wp2_with fail
      go_quiet (first | (go_at_call 15; first | exact Calls.quiet_of_same (HQv.out _) | exact Calls.quiet_of_same (HQs.out _)))
      go_wp2_with fail
      go_loopw [11] (fun i wr => ∃ j : Nat, j ≤ T ∧ i = .int .i64 j ∧ After w4 wr) (fun i _ => T - (intOf i).toNat)
      case atStart => exact ⟨0, Nat.zero_le _, rfl, After.rfl.draws _⟩
      case round =>
        obtain ⟨q, hq, rfl, afq⟩ := hrel
        clear p0 p1
        by_cases hqt : q < T
        · have j1 : (q : Int) < 3 * (M : Int) := by omega
          have j2 : (q : Int) < (T : Int) := by omega
          have j3 : (q : Int) ≤ 45 := by omega
          obtain ⟨ob, oo, rfl, hob, e3⟩ := (HF.out.2.after afq).cellAt hqt
          rw [HCV.out q hqt] at e3
          have AQ := hideIt afq
          clear afq
          go_wp2_with fail
          go_quiet (first | (go_at_call 15; exact Calls.quiet_of_same (HQv.out _)))
          go_wp2
          go_roundw
          case rel => exact ⟨q + 1, by omega, by go_num, AQ.out.draws _⟩
          case measure => simp [intOf]; omega
        · obtain rfl : q = T := by omega
          have j1 : ¬ (q : Int) < 3 * (M : Int) := by omega
          have AQ := hideIt (HF.out.1.trans afq)
          clear afq
          go_wp2
          go_ret
          exact ⟨rfl, AQ.out⟩
end Go.Proofs.Ytjddkoadmoagjaa
