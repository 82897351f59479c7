/-
  The walk of CrcNames.
-/
import Derived.Test.YtgdkepanmnmhjaaLawSums
import Derived.Laws.OwnMore
namespace Go.Proofs.Ytgdkepanmnmhjaa
open Go.RowKit
/-- The long list behind k rounds. -/
def sq (k i : Nat) : Int := if i < k then ((i * i % 256 : Nat) : Int) else 0
def sqn (N k : Nat) : List Int := (List.range N).map (sq k)
theorem sqn_at (N k i : Nat) : (sqn N k)[i]? = if i < N then some (sq k i) else none := by
  unfold sqn
  rw [List.getElem?_map]
  by_cases h : i < N
  · rw [if_pos h, List.getElem?_range h]; rfl
  · have hl : (List.range N)[i]? = none := List.getElem?_eq_none (by rw [List.length_range]; omega)
    rw [if_neg h, hl]; rfl
theorem sqn_bs (N k : Nat) : Bs (sqn N k) := by
  intro z hz
  obtain ⟨i, _, rfl⟩ := List.mem_map.1 hz
  unfold sq
  split <;> omega
theorem sqn_set (N k : Nat) : (sqn N k).set k ((k * k % 256 : Nat) : Int) = sqn N (k + 1) := by
  apply List.ext_getElem?
  intro i
  rw [List.getElem?_set, sqn_at, sqn_at]
  by_cases h : k = i
  · subst h
    have hl : (sqn N k).length = N := by unfold sqn; rw [List.length_map, List.length_range]
    rw [if_pos rfl, hl]
    unfold sq
    rw [if_pos (Nat.lt_succ_self k)]
  · rw [if_neg h]
    have e : sq k i = sq (k + 1) i := by
      unfold sq
      by_cases hl : i < k
      · rw [if_pos hl, if_pos (by omega)]
      · rw [if_neg hl, if_neg (by omega)]
    rw [e]
theorem sqn_zero (N : Nat) : sqn N 0 = List.replicate N 0 := by
  apply List.ext_getElem?
  intro i
  rw [sqn_at, List.getElem?_replicate]
  rfl
def sqs (k : Nat) : List Int := sqn 3000 k
theorem sqs_bs (k : Nat) : Bs (sqs k) := sqn_bs 3000 k
theorem sqs_set (k : Nat) : (u8s (sqs k)).set k (.int .u8 ((k * k % 256 : Nat) : Int)) = u8s (sqs (k + 1)) := by
  have e := sqn_set 3000 k
  unfold u8s sqs
  rw [← e, List.map_set]
theorem made_row (w : World) (n : Nat) (h : n ≤ 3000) : (w.alloc (.cells (madeCells #[.int .u8 0] n) 5)).ownsRow w.heap.size 5 1 (.slice (some ⟨w.heap.size, 0, none⟩) n n) n (u8s (List.replicate n 0)) := by
  have g := World.ownsRow_lit (base := w.heap.size) (e := 5) (size := 1) w (madeCells #[.int .u8 0] n) n (Nat.le_refl _) (by unfold maxLen; omega) (by rw [size_madeCells, Nat.mul_one])
  rw [toList_madeCells_one] at g
  have e : u8s (List.replicate n 0) = List.replicate n (.int .u8 0) := by unfold u8s; rw [List.map_replicate]
  rw [e]; exact g
theorem zeros_bs (n : Nat) : Bs (List.replicate n 0) := by
  intro z hz
  rw [List.eq_of_mem_replicate hz]; omega
theorem sqs_zero : sqs 0 = List.replicate 3000 0 := sqn_zero 3000
theorem make_run (n : Nat) (hn : n ≤ 3000) (N : Int) (hN : N = (n : Int)) (u : World) : (Instr.makeSlice 22 (.int .i64 N) (.int .i64 N)).run Try.prog u = .ok (.slice (some ⟨u.heap.size, 0, none⟩) n n) (u.alloc (.cells (madeCells #[.int .u8 0] n) 5)) := by
  obtain ⟨i0, hi, hz0, hz1, hz2⟩ := info_parts Try.info5
  subst hN
  have h := run_make (P := Try.prog) u 22 5 i0 (.int .u8 0) Try.underlying22 hi hz0 .i64 .i64 (n : Int) (n : Int) (by omega) (Int.le_refl _) (by rw [hz2]; omega) (by omega)
  rw [Int.toNat_natCast] at h
  simpa [hz1, Value.cells] using h
theorem none16 : sum16 [] = 65535 := by decide +kernel
theorem none32 : sum32 [] = 0 := by decide +kernel
theorem nought16 : sum16 [0] = 57840 := by decide +kernel
theorem nought32 : sum32 [0] = 3523407757 := by decide +kernel
theorem noughtStep : step16 0 0 = 0 := by decide +kernel
theorem row_none (w : World) : Row w none 0 [] := ⟨rfl, fun z hz => by simp at hz, fun i hi => absurd hi (by omega)⟩
theorem row_zero (w : World) : Row (w.alloc (.cells #[.int .u8 0] 5)) (some ⟨w.heap.size, 0, none⟩) 1 [0] := by
  have h := World.ownsRow_lit (base := w.heap.size) (e := 5) (size := 1) w #[.int .u8 0] 1 (Nat.le_refl _) (by decide) rfl
  obtain ⟨a, c, e, hr, _⟩ := own_row (zs := [0]) h (by intro z hz; simp at hz; omega)
  cases e
  exact hr
/-- What a round of the loop leaves. -/
theorem long_step {w wr : World} {g k : Nat} (hA : After w wr) (hg : w.heap.size ≤ g) (ho : wr.ownsRow w.heap.size 5 1 (.slice (some ⟨g, 0, none⟩) 3000 3000) 3000 (u8s (sqs k))) :
    (wr.setCell ⟨g, k, none⟩ (.int .u8 ((k * k % 256 : Nat) : Int))).ownsRow w.heap.size 5 1 (.slice (some ⟨g, 0, none⟩) 3000 3000) 3000 (u8s (sqs (k + 1))) ∧ After w (wr.setCell ⟨g, k, none⟩ (.int .u8 ((k * k % 256 : Nat) : Int))) := by
  have h := (ho.stored k (.int .u8 ((k * k % 256 : Nat) : Int))).1
  rw [sqs_set] at h
  exact ⟨h, hA.set hg _⟩
theorem long_cell {w wr : World} {g k : Nat} (hk : k < 3000) (ho : wr.ownsRow w.heap.size 5 1 (.slice (some ⟨g, 0, none⟩) 3000 3000) 3000 (u8s (sqs k))) : wr.cell? ⟨g, k, none⟩ = some (.int .u8 0) ∧ wr.frozen? ⟨g, k, none⟩ = false := by
  refine ⟨?_, ho.frozenAt k⟩
  rw [ho.cellAt k (by omega)]
  have e := sqn_at 3000 k k
  rw [if_pos hk] at e
  unfold u8s sqs
  rw [List.getElem?_map, e]
  simp [sq]
theorem long_val {k : Nat} (hk : k < 3000) : wrap64 ((k : Int) * (k : Int)) % 256 = ((k * k % 256 : Nat) : Int) := by
  have h : k * k ≤ 3000 * 3000 := Nat.mul_le_mul (by omega) (by omega)
  rw [← Int.natCast_mul]
  generalize k * k = m at *
  unfold wrap64
  omega
set_option maxRecDepth 100000 in
set_option maxHeartbeats 1000000 in
theorem names_walk (w : World) : Calls Try.prog 8 #[] w fun e w' => e = .returned (.bool true) ∧ After w w' := by
  have hm1 := make_run 3000 (Nat.le_refl _) 3000 rfl
  have hm2 := make_run 300 (by decide) 300 rfl
  have O1 := hideIt (made_row w 3000 (Nat.le_refl _))
  have O2 : Hid (∀ u : World, (u.alloc (.cells (madeCells #[.int .u8 0] 300) 5)).ownsRow u.heap.size 5 1 (.slice (some ⟨u.heap.size, 0, none⟩) 300 300) 300 (u8s (List.replicate 300 0))) := fun u => made_row u 300 (by decide)
  rw [← sqs_zero] at O1
  generalize madeCells #[.int .u8 0] 3000 = M1 at *
  generalize madeCells #[.int .u8 0] 300 = M2 at *
  go_enter Try.func8, Try.ntmps8
  go_wp2_with fail
  go_loopw [2] (fun i W => ∃ k : Nat, k ≤ 3000 ∧ i = .int .i64 k ∧ W.ownsRow w.heap.size 5 1 (.slice (some ⟨w.heap.size, 0, none⟩) 3000 3000) 3000 (u8s (sqs k)) ∧ After w W) (fun i _ => 3000 - (intOf i).toNat)
  case atStart => exact ⟨0, by omega, rfl, O1.out, After.rfl.alloc _⟩
  case round =>
    obtain ⟨k, hk, rfl, ho, hA⟩ := hrel
    by_cases hlt : k < 3000
    · obtain ⟨hc, hf⟩ := long_cell hlt ho
      obtain ⟨s1, s2⟩ := long_step hA (Nat.le_refl _) ho
      have S1 := hideIt s1
      have S2 := hideIt s2
      have hki : (k : Int) < 3000 := by omega
      have EV := hideIt (long_val hlt)
      clear s1 s2 ho hA O1 O2
      go_wp2
      go_roundw
      case rel => exact ⟨k + 1, by omega, by go_num, by rw [EV.out]; exact S1.out, by rw [EV.out]; exact S2.out⟩
      case measure => simp [intOf]; omega
    · obtain rfl : k = 3000 := by omega
      obtain ⟨a', c', e', r', _⟩ := own_row ho (sqs_bs 3000)
      cases e'
      have R := hideIt r'
      have A0 := hideIt hA
      clear ho hA O1 r' hlt hk
      go_wp2_with fail
      refine (awake_any _).mono ?_
      rintro e w1 ⟨rfl, h1⟩
      have A1 := hideIt (A0.out.trans h1)
      have R1 := hideIt (R.out.after h1)
      clear h1 A0 R
      go_wp2_with fail
      refine (sum16_any none 0 0 [] _ (row_none _) (by decide)).mono ?_
      rintro e w2 ⟨rfl, h2⟩
      rw [none16]
      have A2 := hideIt (A1.out.trans h2)
      have R2 := hideIt (R1.out.after h2)
      clear h2 A1 R1
      go_wp2_with fail
      refine (sum16_any _ _ _ [0] _ (row_zero _) (by decide)).mono ?_
      rintro e w3 ⟨rfl, h3⟩
      rw [nought16]
      have A3 := hideIt ((A2.out.alloc _).trans h3)
      have R3 := hideIt (R2.out.after ((After.rfl.alloc _).trans h3))
      clear h3 A2 R2
      go_wp2_with fail
      refine (sum32_any none 0 0 [] _ (row_none _) (by decide)).mono ?_
      rintro e w4 ⟨rfl, h4⟩
      rw [none32]
      have A4 := hideIt (A3.out.trans h4)
      have R4 := hideIt (R3.out.after h4)
      clear h4 A3 R3
      go_wp2_with fail
      refine (sum32_any _ _ _ [0] _ (row_zero _) (by decide)).mono ?_
      rintro e w5 ⟨rfl, h5⟩
      rw [nought32]
      have A5 := hideIt ((A4.out.alloc _).trans h5)
      have R5 := hideIt (R4.out.after ((After.rfl.alloc _).trans h5))
      clear h5 A4 R4
      go_wp2_with fail
      refine (step16_any 0 0 _ (by decide) (by decide)).mono ?_
      rintro e w6 ⟨rfl, rfl⟩
      rw [noughtStep]
      go_wp2_with fail
      refine (sums_walk _ _ _ _ _ R5.out (fun h => by cases h) (by decide)).mono ?_
      rintro e w7 ⟨rfl, h7⟩
      have A7 := hideIt (A5.out.trans h7)
      clear h7 A5 R5
      go_wp2_with fail
      obtain ⟨a8, c8, e8, r8, _⟩ := own_row (O2.out w7) (zeros_bs 300)
      cases e8
      refine (sums_walk _ _ _ _ _ r8 (fun h => by cases h) (by decide)).mono ?_
      rintro e w8 ⟨rfl, h8⟩
      have A8 := hideIt ((A7.out.alloc _).trans h8)
      clear h8 A7 O2 r8
      go_wp2_with fail
      refine (steps_walk 65535 255 _ (by decide) (by decide) (by decide) (by decide)).mono ?_
      rintro e w9 ⟨rfl, h9⟩
      have A9 := hideIt (A8.out.trans h9)
      clear h9 A8
      go_wp2
      go_ret
      exact ⟨rfl, A9.out⟩
end Go.Proofs.Ytgdkepanmnmhjaa
