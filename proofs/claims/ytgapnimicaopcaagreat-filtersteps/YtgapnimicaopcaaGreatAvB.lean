/-
  Where a mean lies in memory; New, isNone, sum, mean of package average; what is none.
-/
import Derived.Test.YtgapnimicaopcaaGreatAvA
import Derived.Deep.QuietTactic
import Derived.BigQuiet
namespace Go.Proofs.YtgapnimicaopcaaGreat.L10
open Go.RowKit
set_option maxRecDepth 8000
/-- The cells of a mean. -/
def avC (Z : List Int) (n k f : Nat) : Array Value := (i64s Z ++ [Value.int .i64 (n : Int), Value.int .i64 (k : Int), Value.int .i64 (f : Int)]).toArray
theorem avC_num {Z : List Int} {n k f i : Nat} (hi : i < Z.length) : (avC Z n k f)[i]? = some (.int .i64 (Z.getD i 0)) := by
  unfold avC
  rw [List.getElem?_toArray, List.getElem?_append_left (by rw [i64s_length]; exact hi)]
  simp [i64s, hi]
theorem avC_15 {Z : List Int} {n k f : Nat} (hz : Z.length = 15) : (avC Z n k f)[15]? = some (.int .i64 (n : Int)) := by
  unfold avC
  rw [List.getElem?_toArray, List.getElem?_append_right (by rw [i64s_length]; omega), i64s_length, hz]
  rfl
theorem avC_16 {Z : List Int} {n k f : Nat} (hz : Z.length = 15) : (avC Z n k f)[16]? = some (.int .i64 (k : Int)) := by
  unfold avC
  rw [List.getElem?_toArray, List.getElem?_append_right (by rw [i64s_length]; omega), i64s_length, hz]
  rfl
theorem avC_17 {Z : List Int} {n k f : Nat} (hz : Z.length = 15) : (avC Z n k f)[17]? = some (.int .i64 (f : Int)) := by
  unfold avC
  rw [List.getElem?_toArray, List.getElem?_append_right (by rw [i64s_length]; omega), i64s_length, hz]
  rfl
theorem avC_set {Z : List Int} {n k f i : Nat} (hi : i < Z.length) (v : Int) : (avC Z n k f).setIfInBounds i (.int .i64 v) = avC (Z.set i v) n k f := by
  unfold avC
  rw [List.setIfInBounds_toArray, List.set_append_left _ _ (by rw [i64s_length]; exact hi)]
  unfold i64s
  rw [List.map_set]
theorem avC_set16 {Z : List Int} {n k f k' : Nat} (hz : Z.length = 15) : (avC Z n k f).setIfInBounds 16 (.int .i64 (k' : Int)) = avC Z n k' f := by
  unfold avC
  rw [List.setIfInBounds_toArray, List.set_append_right _ _ (by rw [i64s_length]; omega), i64s_length, hz]
  rfl
theorem avC_set17 {Z : List Int} {n k f f' : Nat} (hz : Z.length = 15) : (avC Z n k f).setIfInBounds 17 (.int .i64 (f' : Int)) = avC Z n k f' := by
  unfold avC
  rw [List.setIfInBounds_toArray, List.set_append_right _ _ (by rw [i64s_length]; omega), i64s_length, hz]
  rfl
/-- A mean of n lies at p: of the last numbers s. -/
structure AvX (w : World) (p n : Nat) (s Z : List Int) (f : Nat) : Prop where
  at0 : w.heap[p]? = some (.cells (avC Z n s.length f) 115 (0, 0))
  zl : Z.length = 15
  hn : n ≤ 15
  ring : Ring n (Z.take s.length) f s
  fit : Fit s
def Av (w : World) (p n : Nat) (s : List Int) : Prop := ∃ Z f, AvX w p n s Z f
theorem Av.but {S : Nat → Prop} {w w' : World} {p n : Nat} {s : List Int} (x : Av w p n s) (b : But S w w') (hp : ¬ S p) : Av w' p n s := by
  obtain ⟨Z, f, x⟩ := x
  exact ⟨Z, f, { x with at0 := (b.block p (blk_lt x.at0) hp).trans x.at0 }⟩
theorem Av.lt {w : World} {p n : Nat} {s : List Int} (x : Av w p n s) : p < w.heap.size := by
  obtain ⟨Z, f, x⟩ := x
  exact blk_lt x.at0
theorem Av.le {w : World} {p n : Nat} {s : List Int} (x : Av w p n s) : s.length ≤ n ∧ 0 < n ∧ n ≤ 15 := by
  obtain ⟨Z, f, x⟩ := x
  have := x.ring.lt
  exact ⟨x.ring.le, by omega, x.hn⟩
abbrev zeroA (n : Int) : Array Value := #[.int .i64 0, .int .i64 0, .int .i64 0, .int .i64 0, .int .i64 0, .int .i64 0, .int .i64 0, .int .i64 0, .int .i64 0, .int .i64 0, .int .i64 0, .int .i64 0, .int .i64 0, .int .i64 0, .int .i64 0, .int .i64 n, .int .i64 0, .int .i64 0]
theorem av_new {w : World} {p n : Nat} (h : w.heap[p]? = some (.cells (zeroA n) 115 (0, 0))) (h1 : 1 ≤ n) (h2 : n ≤ 15) : Av w p n [] :=
  ⟨List.replicate 15 0, 0, h, rfl, h2, Ring.new h1, Fit.nil⟩
/-- Which n may be. -/
def May (n : Int) : Prop := 1 ≤ n ∧ n ≤ 15
theorem avNew_ok (w : World) (n : Int) (h : May n) : Calls Tryz.prog 31 #[.int .i64 n] w fun e w' => e = .returned (.tuple #[Ptr w.heap.size, .int .i64 0]) ∧ w' = w.alloc (.cells (zeroA n) 115) := by
  obtain ⟨h1, h2⟩ := h
  go_enter Tryz.func31, Tryz.ntmps31
  go_wp2
  go_ret2
  exact ⟨rfl, rfl⟩
theorem avNew_no (w : World) (n : Int) (h : ¬ May n) : Calls Tryz.prog 31 #[.int .i64 n] w fun e w' => e = .returned (.tuple #[.pointer none, .int .i64 2]) ∧ w' = w := by
  rcases (by unfold May at h; omega : n < 1 ∨ (¬ n < 1 ∧ 15 < n)) with h1 | ⟨h1, h2⟩
  all_goals
    clear h
    go_enter Tryz.func31, Tryz.ntmps31
    go_wp2
    go_ret2
    exact ⟨rfl, rfl⟩
theorem avNone_no {w : World} {p n : Nat} {s : List Int} (x : Av w p n s) : Calls Tryz.prog 115 #[Ptr p] w fun e w' => e = .returned (.bool false) ∧ w' = w := by
  obtain ⟨Z, f, x⟩ := x
  have c := blk_cell x.at0 (avC_15 x.zl)
  have hn : ¬ (n : Int) = 0 := by have := x.ring.lt; omega
  have hb : ((n : Int) == 0) = false := by simpa using hn
  clear x hn
  go_enter Tryz.func115, Tryz.ntmps115
  go_wp2
  go_ret
  exact ⟨rfl, rfl⟩
theorem avNone_zero {w : World} {p : Nat} (h : w.heap[p]? = some (.cells (zeroA 0) 115 (0, 0))) : Calls Tryz.prog 115 #[Ptr p] w fun e w' => e = .returned (.bool true) ∧ w' = w := by
  have c := blk_cell (i := 15) (v := .int .i64 0) h rfl
  clear h
  go_enter Tryz.func115, Tryz.ntmps115
  go_wp2
  go_ret
  exact ⟨rfl, rfl⟩
theorem avNone_nil (w : World) : Calls Tryz.prog 115 #[.pointer none] w fun e w' => e = .returned (.bool true) ∧ w' = w := by
  go_enter Tryz.func115, Tryz.ntmps115
  go_wp2
  go_ret
  exact ⟨rfl, rfl⟩
/-- What is none answers so. -/
def NoneA (w : World) (v : Value) : Prop := Calls Tryz.prog 115 #[v] w fun e w' => e = .returned (.bool true) ∧ w' = w
theorem avPush_none {w : World} {v : Value} (h : NoneA w v) (y : Int) : Calls Tryz.prog 114 #[v, .int .i64 y] w fun e w' => e = .returned (.tuple #[.int .i64 0, .int .i64 1]) ∧ w' = w := by
  unfold NoneA at h
  have H := hideIt h
  clear h
  go_enter Tryz.func114, Tryz.ntmps114
  go_wp2_with (go_at_call 115; refine H.out.mono ?_; rintro e w' ⟨rfl, rfl⟩)
  go_ret2
  exact ⟨rfl, rfl⟩

theorem sum_succ {A : List Int} {i : Nat} (h : i < A.length) : sumZ (A.take (i + 1)) = sumZ (A.take i) + A.getD i 0 := by
  rw [List.take_succ_eq_append_getElem h, sumZ_snoc, getD_at h]
set_option maxHeartbeats 1000000 in
theorem avSum_any {w : World} {p n : Nat} {s : List Int} (x : Av w p n s) : Calls Tryz.prog 117 #[Ptr p] w fun e w' => e = .returned (.int .i64 (sumZ s)) ∧ Dr w w' := by
  obtain ⟨Z, f, x⟩ := x
  have hzl := x.zl
  have hle := x.ring.le
  have hn := x.hn
  have c16 := blk_cell x.at0 (avC_16 x.zl)
  have hp := x.ring.perm
  have hfit : Fit (Z.take s.length) := x.fit.perm hp.symm
  have hsum := sumZ_perm hp
  have hA : (Z.take s.length).length = s.length := x.ring.len
  have HC := hideIt (show ∀ W, After w W → ∀ i, i < s.length → W.cell? ⟨p, i, none⟩ = some (.int .i64 ((Z.take s.length).getD i 0)) from fun W a i hi => by
    rw [getD_take _ hi]
    exact (a.cell (blk_lt x.at0) i).trans (blk_cell x.at0 (avC_num (by omega))))
  rw [← hsum]
  generalize Z.take s.length = A at *
  generalize s.length = k at *
  have HB := hideIt (show ∀ i, -32212254705 ≤ sumZ (A.take i) ∧ sumZ (A.take i) ≤ 32212254705 from fun i => (hfit.take i).sum (by rw [List.length_take]; omega))
  have HF := hideIt (show ∀ i, i < k → -2147483647 ≤ A.getD i 0 ∧ A.getD i 0 ≤ 2147483647 from fun i hi => hfit _ (by rw [getD_at (by omega)]; exact List.getElem_mem _))
  have HS := hideIt (show ∀ i, i < k → sumZ (A.take (i + 1)) = sumZ (A.take i) + A.getD i 0 from fun i hi => sum_succ (by omega))
  have HT := hideIt (show A.take k = A from List.take_of_length_le (by omega))
  have k1 : (k : Int) ≤ 15 := by omega
  have k2 : (0 : Int) ≤ (k : Int) := by omega
  clear x hp hfit hsum hA hzl hle hn
  go_enter Tryz.func117, Tryz.ntmps117
  go_wp2
  go_region
  go_wp2_with fail
  go_loopw [3, 15] (fun sm i wr => ∃ j : Nat, j ≤ k ∧ i = .int .i64 j ∧ sm = .int .i64 (sumZ (A.take j)) ∧ Dr w wr) (fun _ i _ => k - (intOf i).toNat)
  case atStart => exact ⟨0, Nat.zero_le _, rfl, rfl, Dr.rfl.drew⟩
  case round =>
    obtain ⟨j, hj, rfl, rfl, af⟩ := hrel
    by_cases hjk : j < k
    · have i1 : (j : Int) < (k : Int) := by omega
      have e1 := HC.out _ af.after j hjk
      have b1 := HB.out j
      have b2 := HF.out j hjk
      have HS2 := hideIt (HS.out j hjk)
      have AF := hideIt af
      clear af
      generalize A.getD j 0 = y at *
      generalize sumZ (A.take j) = S at *
      go_wp2
      go_roundw
      case rel => exact ⟨j + 1, by omega, by go_num, by rw [HS2.out], AF.out⟩
      case measure => simp [intOf]; omega
    · obtain rfl : j = k := by omega
      have i1 : ¬ (j : Int) < (j : Int) := by omega
      rw [HT.out]
      have AF := hideIt af
      clear af
      go_wp2
      go_ret
      exact ⟨rfl, AF.out⟩
set_option maxHeartbeats 2000000 in
theorem avMean_any {w : World} {p n : Nat} {s : List Int} (x : Av w p n s) (hs : 0 < s.length) : Calls Tryz.prog 116 #[Ptr p] w fun e w' => e = .returned (.tuple #[.int .i64 (meanZ s), .int .i64 0]) ∧ Dr w w' := by
  have HS := hideIt (avSum_any x)
  have hle := x.le
  have hlt := x.lt
  obtain ⟨Z, f, x⟩ := x
  have c16 := blk_cell x.at0 (avC_16 x.zl)
  have hsm := x.fit.sum (by omega)
  unfold meanZ
  have hgo := near_go (sumZ s) hs
  have hnb := near_between (s := sumZ s) (lo := -2147483647) (hi := 2147483647) hs (sumZ_lo (fun y hy => (x.fit y hy).1)) (sumZ_hi (fun y hy => (x.fit y hy).2))
  generalize sumZ s = S at *
  generalize s.length = k at *
  generalize near S k = M at *
  have r1 := Int.lt_tmod_of_pos S (show (0 : Int) < (k : Int) by omega)
  have r2 := Int.tmod_lt_of_pos S (show (0 : Int) < (k : Int) by omega)
  have HP := hideIt (fun W => scale_part (S.tmod k) k hs (by omega) r1 r2 W)
  have hp : -1 ≤ part (S.tmod k) k ∧ part (S.tmod k) k ≤ 1 := by unfold part; split <;> split <;> omega
  generalize hR : S.tmod k = R at *
  generalize part R k = P at *
  generalize hQ : S.tdiv k = Q at *
  have k1 : (k : Int) ≤ 15 := by omega
  have k2 : ¬ (k : Int) = 0 := by omega
  have HC := hideIt (show ∀ W, After w W → W.cell? ⟨p, 16, none⟩ = some (.int .i64 (k : Int)) from fun W a => (a.cell hlt 16).trans c16)
  have HG := hideIt hgo
  have q1 : -2147483648 ≤ Q := by omega
  have q2 : Q ≤ 2147483648 := by omega
  clear x c16 hgo r1 r2 hs hle hlt
  go_enter Tryz.func116, Tryz.ntmps116
  go_wp2_with fail
  refine HS.out.mono ?_
  rintro e w1 ⟨rfl, d1⟩
  have c1 := HC.out _ d1.after
  have D1 := hideIt d1
  clear d1 HS
  go_wp2_with fail
  go_quiet (first | (go_at_call 57; refine Calls.quiet_of (HP.out _)))
  go_wp2
  go_ret2
  have hg := HG.out
  subst hg
  refine ⟨rfl, ?_⟩
  obtain ⟨m, rfl⟩ := D1.out
  exact ⟨_, World.drewN_drewN _ _ _⟩
end Go.Proofs.YtgapnimicaopcaaGreat.L10
