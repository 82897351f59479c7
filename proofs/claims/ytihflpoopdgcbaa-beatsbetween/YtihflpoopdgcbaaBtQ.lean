/-
  What follows of rates, over lists alone; ticks that rise, out of distances.
-/
import Derived.Test.YtihflpoopdgcbaaBtT
namespace Go.Proofs.Ytihflpoopdgcbaa
open Go.RowKit
set_option maxRecDepth 8000
theorem rd_mono {g d e : Int} (hg : 0 ≤ g) (h1 : 0 < d) (h2 : d ≤ e) : rd g e ≤ rd g d := by
  unfold rd
  have hq := Int.ediv_mul_le (1200000 * g + e) (b := 2 * e) (by omega)
  generalize (1200000 * g + e) / (2 * e) = q at *
  refine Int.le_ediv_of_mul_le (by omega) ?_
  have e1 : q * (2 * d) = 2 * (q * d) := Int.mul_left_comm ..
  have e2 : q * (2 * e) = 2 * (q * e) := Int.mul_left_comm ..
  rw [e1]
  rw [e2] at hq
  by_cases h0 : q ≤ 0
  · have h3 : q * d ≤ 0 := Int.mul_nonpos_of_nonpos_of_nonneg h0 (by omega)
    omega
  · have h3 : (2 * q - 1) * d ≤ (2 * q - 1) * e := Int.mul_le_mul_of_nonneg_left h2 (by omega)
    rw [Int.sub_mul, Int.sub_mul, Int.one_mul, Int.one_mul, Int.mul_assoc, Int.mul_assoc] at h3
    omega
theorem rd_scale {g d : Int} (hg : 0 < g) : rd g (g * d) = rd 1 d := by
  unfold rd
  have e1 : 1200000 * g + g * d = g * (1200000 * 1 + d) := by rw [Int.mul_add, Int.mul_one, Int.mul_comm g 1200000]
  have e2 : 2 * (g * d) = g * (2 * d) := by rw [Int.mul_left_comm]
  rw [e1, e2]
  exact Int.mul_ediv_mul_of_pos _ _ hg
theorem steps_sum {l : List Int} {lv mv : Int} (hd : ∀ i, i + 1 < l.length → lv ≤ l.getD (i + 1) 0 - l.getD i 0 ∧ l.getD (i + 1) 0 - l.getD i 0 ≤ mv) (k : Nat) (hk : k < l.length) : (k : Int) * lv ≤ l.getD k 0 - l.getD 0 0 ∧ l.getD k 0 - l.getD 0 0 ≤ (k : Int) * mv := by
  induction k with
  | zero => simp
  | succ k ih =>
    have h1 := ih (by omega)
    have h2 := hd k hk
    rw [Int.natCast_add, Int.add_mul, Int.add_mul]
    omega
theorem rt_between {l : List Int} {lv mv : Int} (hl : 2 ≤ l.length) (h0 : 0 < lv) (hd : ∀ i, i + 1 < l.length → lv ≤ l.getD (i + 1) 0 - l.getD i 0 ∧ l.getD (i + 1) 0 - l.getD i 0 ≤ mv) : rd 1 mv ≤ rt l ∧ rt l ≤ rd 1 lv := by
  have hs := steps_sum hd (l.length - 1) (by omega)
  unfold rt
  generalize l.getD (l.length - 1) 0 - l.getD 0 0 = D at *
  obtain ⟨g, hg⟩ : ∃ g : Int, g = ((l.length - 1 : Nat) : Int) := ⟨_, rfl⟩
  rw [← hg] at hs ⊢
  have hg0 : 0 < g := by omega
  have hp : 0 < g * lv := Int.mul_pos hg0 h0
  rw [← rd_scale (g := g) (d := mv) hg0, ← rd_scale (g := g) (d := lv) hg0]
  exact ⟨rd_mono (by omega) (by omega) hs.2, rd_mono (by omega) hp hs.1⟩
theorem last_getD (n : Nat) (l : List Int) (i : Nat) : (lastN n l).getD i 0 = l.getD (l.length - n + i) 0 := by
  unfold lastN
  rw [getD_drop]
/-- Ticks out of distances. -/
def atT (zs : List Int) : Nat → Int
  | 0 => 0
  | i + 1 => atT zs i + 1 + ((broughtTo (zs.getD i 0) 1000 : Nat) : Int)
theorem atT_succ (zs : List Int) (i : Nat) : atT zs (i + 1) = atT zs i + 1 + ((broughtTo (zs.getD i 0) 1000 : Nat) : Int) := rfl
theorem atT_step (zs : List Int) (i : Nat) : atT zs i + 1 ≤ atT zs (i + 1) ∧ atT zs (i + 1) ≤ atT zs i + 1000 := by
  have := broughtTo_lt (zs.getD i 0) (m := 1000) (by omega)
  rw [atT_succ]
  omega
theorem atT_le (zs : List Int) (i : Nat) : 0 ≤ atT zs i ∧ atT zs i ≤ 1000 * (i : Int) := by
  induction i with
  | zero => simp [atT]
  | succ i ih =>
    have := atT_step zs i
    omega
def rs (zs : List Int) (j : Nat) : List Int := (List.range j).map (fun i => atT zs (i + 1))
theorem rs_length (zs : List Int) (j : Nat) : (rs zs j).length = j := by simp [rs]
theorem rs_succ (zs : List Int) (j : Nat) : rs zs (j + 1) = rs zs j ++ [atT zs (j + 1)] := by
  unfold rs
  rw [List.range_succ, List.map_append]
  rfl
theorem range_getD (f : Nat → Int) {i j : Nat} (h : i < j) : ((List.range j).map f).getD i 0 = f i := by
  simp [List.getD_eq_getElem?_getD, h]
theorem rs_getD (zs : List Int) {i j : Nat} (h : i < j) : (rs zs j).getD i 0 = atT zs (i + 1) := range_getD _ h
theorem rs_rise (zs : List Int) {j : Nat} (hj : j ≤ 200) : Rise (rs zs j) := by
  have hl := rs_length zs j
  refine ⟨fun i hi => ?_, fun i hi => ?_, fun i hi => ?_⟩
  · rw [rs_getD zs (by omega)]
    exact (atT_le zs _).1
  · rw [rs_getD zs (by omega)]
    have := (atT_le zs (i + 1)).2
    omega
  · rw [rs_getD zs (by omega), rs_getD zs (by omega)]
    have := (atT_step zs (i + 1)).1
    omega
set_option maxHeartbeats 1000000 in
theorem rising_any (w : World) (a : Option Addr) (k c : Nat) (zs : List Int) (hr : IRow w a k zs) (hz : ∀ z ∈ zs, -9223372036854775808 ≤ z ∧ z ≤ 9223372036854775807) (hk : k ≤ 17592186044416) :
    Calls Try.prog 16 #[.slice a k c] w fun e w' => ∃ v, e = .returned v ∧ OInts w' w.heap.size v (rs zs (min k 200)) ∧ After w w' := by
  have hlen := hr.1
  have HR := hideIt hr
  have HZB := hideIt (show ∀ i, i < k → -9223372036854775808 ≤ zs.getD i 0 ∧ zs.getD i 0 ≤ 9223372036854775807 from fun i hi => hz _ (by rw [getD_at (by omega)]; exact List.getElem_mem _))
  have k0 : (k : Int) ≤ 17592186044416 := by omega
  clear hr hlen hz
  go_enter Try.func16, Try.ntmps16
  go_wp2_with fail
  go_loopw [3, 4, 5] (fun o t i wr => ∃ (j : Nat), j ≤ min k 200 ∧ i = .int .i64 j ∧ t = .int .i64 (atT zs j) ∧ OInts wr w.heap.size o (rs zs j) ∧ After w wr) (fun _ _ i _ => 200 - (intOf i).toNat)
  case atStart => exact ⟨0, Nat.zero_le _, rfl, rfl, own_nil _ _, After.rfl⟩
  case round =>
    obtain ⟨j, hj, rfl, rfl, own, af⟩ := hrel
    by_cases hjk : j < k ∧ j < 200
    · have i1 : (j : Int) < (k : Int) := by omega
      have i2 : (j : Int) < 200 := by omega
      obtain ⟨b, off, rfl, -, e0⟩ := (HR.out.after af).cellAt hjk.1
      have hzb := HZB.out j hjk.1
      have HB := hideIt (fun W => bring_any (zs.getD j 0) 1000 W hzb.1 hzb.2 (by omega) (by omega))
      have hbl := broughtTo_lt (zs.getD j 0) (m := 1000) (by omega)
      have ht := atT_le zs j
      have hs := atT_succ zs j
      have hrs := rs_succ zs j
      have hl := rs_length zs j
      generalize zs.getD j 0 = z at *
      generalize broughtTo z 1000 = d at *
      rw [hs] at hrs
      have HS := hideIt (And.intro hs hrs)
      have HZ := hideIt (show (rs zs j).length + 1 ≤ 17592186044416 by omega)
      have HA := hideIt af
      have HO := hideIt own
      have hd1 : (d : Int) < 1000 := by omega
      clear own af hzb hbl hs hrs hl
      generalize atT zs j = T at *
      obtain ⟨t1, t2⟩ := ht
      have t3 : T ≤ 200000 := by omega
      obtain ⟨y, hy⟩ : ∃ y, T + 1 + (d : Int) = y := ⟨_, rfl⟩
      have HY := hideIt hy
      have HO2 := hideIt (own_after HO.out (After.rfl.alloc (.cells #[.int .i64 y] 3)))
      have HW := hideIt (show IRow (wr.alloc (.cells #[.int .i64 y] 3)) (some ⟨wr.heap.size, 0, none⟩) 1 [y] from lit_irow (heap_alloc_new wr _) rfl rfl)
      have HBs := hideIt (show w.heap.size ≤ (wr.alloc (.cells #[.int .i64 y] 3)).heap.size by have := HA.out.size; simp; omega)
      go_wp2_with fail
      refine (HB.out _).mono ?_
      rintro e w' ⟨rfl, hww⟩
      subst w'
      clear HB e0
      go_wp2_with (at_builtin; refine app_ints rfl (.tmp 24) (.tmp 26) rfl w.heap.size _ (rs zs j) rfl HO2.out (some ⟨wr.heap.size, 0, none⟩) 1 1 [y] rfl HW.out (fun h => by cases h) HZ.out HBs.out ?_)
      intro v3 w3 o3 b3
      have a3 : After w w3 := HA.out.then ((After.rfl.alloc _).but.then (T := From w.heap.size) (b3.mono (fun i _ t => (own_lt HO2.out t).1)) (fun i _ t => t)) (fun i hi t => by have : w.heap.size ≤ i := t; omega)
      have HF := hideIt (And.intro o3 a3)
      clear o3 b3 a3 HO HO2 HW HBs hy
      go_wp2
      go_roundw
      case rel =>
        have hs := HS.out
        rw [HY.out] at hs
        refine ⟨j + 1, by omega, by go_num, by rw [hs.1], ?_, HF.out.2⟩
        rw [hs.2]
        exact HF.out.1
      case measure => simp [intOf]; omega
    · have hjm : j = min k 200 := by omega
      rw [hjm] at own
      have HF := hideIt (And.intro own af)
      clear own af
      rcases (by omega : ¬ (j : Int) < (k : Int) ∨ ((j : Int) < (k : Int) ∧ ¬ (j : Int) < 200)) with i1 | ⟨i1, i2⟩
      all_goals
        clear hjm hjk
        go_wp2
        go_ret
        exact ⟨_, rfl, HF.out⟩
end Go.Proofs.Ytihflpoopdgcbaa
