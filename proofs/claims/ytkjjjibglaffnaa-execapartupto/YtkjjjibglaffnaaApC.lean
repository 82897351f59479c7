/-
  reaches, in memory.
-/
import Derived.Test.YtkjjjibglaffnaaApB
import Derived.Test.YtkjjjibglaffnaaRxJ
namespace Go.Proofs.Ytkjjjibglaffnaa
open Go.RowKit
set_option maxRecDepth 8000
theorem bits_pow (n : Int) (e : Nat) (m : Int) (hm : m = ((2 ^ e : Nat) : Int) - 1) (he : e ≤ 32) : Go.bits .and .i64 n m = n % ((2 ^ e : Nat) : Int) := by
  have hp : 2 ^ e ≤ 2 ^ 32 := Nat.pow_le_pow_right (by decide) he
  have hp1 : 1 ≤ 2 ^ e := Nat.one_le_two_pow
  have h7 : (BitVec.ofInt 64 m).toNat = 2 ^ e - 1 := by
    rw [BitVec.toNat_ofInt, hm]
    have : (2 : Nat) ^ 32 = 4294967296 := rfl
    omega
  have key : (BitVec.ofInt 64 n &&& BitVec.ofInt 64 m).toNat = (n % ((2 ^ 64 : Nat) : Int)).toNat % 2 ^ e := by
    rw [BitVec.toNat_and, BitVec.toNat_ofInt, h7, Nat.and_two_pow_sub_one_eq_mod]
  have hd : ((2 ^ e : Nat) : Int) ∣ ((2 ^ 64 : Nat) : Int) := Int.natCast_dvd_natCast.2 (Nat.pow_dvd_pow 2 (by omega))
  show IntKind.i64.wrap ((BitVec.ofInt 64 n &&& BitVec.ofInt 64 m).toNat : Nat) = n % ((2 ^ e : Nat) : Int)
  rw [key]
  have h1 : (((n % ((2 ^ 64 : Nat) : Int)).toNat % 2 ^ e : Nat) : Int) = n % ((2 ^ e : Nat) : Int) := by
    rw [Int.natCast_emod, Int.toNat_of_nonneg (Int.emod_nonneg _ (by decide)), Int.emod_emod_of_dvd n hd]
  rw [h1]
  have h2 := Int.emod_nonneg n (show ((2 ^ e : Nat) : Int) ≠ 0 by omega)
  have h3 := Int.emod_lt_of_pos n (show (0 : Int) < ((2 ^ e : Nat) : Int) by omega)
  have : (2 : Nat) ^ 32 = 4294967296 := rfl
  exact wrap_small _ (by omega) (by omega)
theorem and7 {n : Int} (h0 : 0 ≤ n) (h1 : n < 8) : Go.bits .and .i64 n 7 = n := by
  rw [bits_pow n 3 7 rfl (by decide)]
  show n % 8 = n
  omega
abbrev baC (S : Nat → Bool) : Array Value := #[.bool (S 0), .bool (S 1), .bool (S 2), .bool (S 3), .bool (S 4), .bool (S 5), .bool (S 6), .bool (S 7)]
theorem eightB {p : Nat} (h : p < 8) : p = 0 ∨ p = 1 ∨ p = 2 ∨ p = 3 ∨ p = 4 ∨ p = 5 ∨ p = 6 ∨ p = 7 := by omega
theorem baC_at (S : Nat → Bool) {p : Nat} (h : p < 8) : (baC S)[p]? = some (.bool (S p)) := by
  rcases eightB h with rfl | rfl | rfl | rfl | rfl | rfl | rfl | rfl <;> rfl
theorem baC_set (S : Nat → Bool) {p : Nat} (h : p < 8) (v : Bool) : (baC S).setIfInBounds p (.bool v) = baC (setf S p v) := by
  rcases eightB h with rfl | rfl | rfl | rfl | rfl | rfl | rfl | rfl <;> rfl
theorem baC_lit {to : Nat} (h : to < 8) : ([Value.bool false, Value.bool false, Value.bool false, Value.bool false, Value.bool false, Value.bool false, Value.bool false, Value.bool false].set to (Value.bool true)).toArray = baC (setf (fun _ => false) to true) := by
  rcases eightB h with rfl | rfl | rfl | rfl | rfl | rfl | rfl | rfl <;> rfl
theorem indexB8 (g : Nat) {i : Nat} (h : i < 8) (w : World) : (Instr.indexAt 52 (.pointer (some ⟨g, 0, none⟩)) (.int .i64 (i : Int))).run Try.prog w = .ok (.pointer (some ⟨g, i, none⟩)) w := by
  have h2 : (i : Int) < 8 := by omega
  simp [go_sem, h2]
/-- The array lies there, and the cell of what is answered. -/
structure Ba (w0 w : World) (g r : Nat) (S : Nat → Bool) : Prop where
  at0 : w.heap[g]? = some (.cells (baC S) 52 (0, 0))
  at1 : w.heap[r]? = some (.cells (baC (fun _ => false)) 52 (0, 0))
  ne : r ≠ g
  lg : w0.heap.size ≤ g
  aft : After w0 w
theorem Ba.set {w0 w : World} {g r : Nat} {S : Nat → Bool} (h : Ba w0 w g r S) {p : Nat} (hp : p < 8) : Ba w0 (w.setCell ⟨g, p, none⟩ (.bool true)) g r (setf S p true) :=
  ⟨by rw [← baC_set S hp true]; exact blk_put h.at0 p _, ((but_one w g p (.bool true)).block r (blk_lt h.at1) (fun e => h.ne e)).trans h.at1, h.ne, h.lg, h.aft.then (but_one w g p (.bool true)) (fun k hk e => by have e : k = g := e; have := h.lg; omega)⟩
theorem Ba.after {w0 w w' : World} {g r : Nat} {S : Nat → Bool} (h : Ba w0 w g r S) (a : After w w') : Ba w0 w' g r S :=
  ⟨(a.block g (blk_lt h.at0) (fun t => t)).trans h.at0, (a.block r (blk_lt h.at1) (fun t => t)).trans h.at1, h.ne, h.lg, h.aft.trans a⟩
theorem Try.infoBa : (Try.prog.info? 52).map (·.size) = some 8 := by kernel_rfl
set_option maxHeartbeats 4000000 in
theorem reaches_any {w : World} {la : Option Addr} {lc : Nat} {lk : List (Int × Int)} (hl : GRow prE w la lk.length lk) (hn : lk.length ≤ 16) (hb : ∀ q ∈ lk, (0 ≤ q.1 ∧ q.1 < 8) ∧ (0 ≤ q.2 ∧ q.2 < 8)) {to : Nat} (ht : to < 8) :
    Calls Try.prog 15 #[.slice la lk.length lc, .int .i64 (to : Int)] w fun e w' => e = .returned (.agg (baC (rch lk to))) ∧ After w w' := by
  have HL := hideIt (And.intro hl hb)
  have i1 : (lk.length : Int) ≤ 16 := by omega
  have k7 := and7 (n := (to : Int)) (by omega) (by omega)
  have i2 : (to : Int) < 8 := by omega
  have H0 := hideIt (show Ba w ((w.alloc (.cells (baC (fun _ => false)) 52)).alloc (.cells (baC (setf (fun _ => false) to true)) 52)) (w.heap.size + 1) w.heap.size (setf (fun _ => false) to true) by
    have hs : (w.alloc (.cells (baC (fun _ => false)) 52)).heap.size = w.heap.size + 1 := by simp
    refine ⟨?_, ?_, ?_, ?_, ?_⟩
    · rw [← hs]; exact heap_alloc_new _ _
    · exact ((After.rfl.alloc _).block w.heap.size (by rw [hs]; omega) (fun t => t)).trans (heap_alloc_new w _)
    · omega
    · omega
    · exact (After.rfl.alloc _).alloc _)
  have HT := hideIt ht
  have x1 := indexB8 (w.heap.size + 1) ht
  have x3 : [Value.bool false, Value.bool false, Value.bool false, Value.bool false, Value.bool false, Value.bool false, Value.bool false, Value.bool false][to]? = some (.bool false) := by
    rcases eightB ht with rfl | rfl | rfl | rfl | rfl | rfl | rfl | rfl <;> rfl
  clear hl hb hn ht
  go_enter Try.func15, Try.ntmps15
  go_wp2_with fail
  rw [baC_lit HT.out]
  clear k7 x1 x3
  go_loopw [6] (fun iv wr => ∃ n : Nat, n ≤ 8 ∧ iv = .int .i64 n ∧ Ba w wr (w.heap.size + 1) w.heap.size (itr lk n (setf (fun _ => false) to true))) (fun iv _ => 8 - (intOf iv).toNat)
  case atStart => exact ⟨0, Nat.zero_le _, rfl, H0.out⟩
  case round =>
    clear H0
    obtain ⟨n, hn, rfl, ba⟩ := hrel
    by_cases hn8 : n < 8
    · have i3 : (n : Int) < 8 := by omega
      have HS := hideIt (show itr lk (n + 1) (setf (fun _ => false) to true) = pss lk (itr lk n (setf (fun _ => false) to true)) from itr_succ lk n _)
      generalize itr lk n (setf (fun _ => false) to true) = S at *
      have HB := hideIt ba
      clear ba
      go_wp2_with fail
      go_loopw [7] (fun iv wr => ∃ j : Nat, j ≤ lk.length ∧ iv = .int .i64 j ∧ Ba w wr (w.heap.size + 1) w.heap.size (pss (lk.take j) S)) (fun iv _ => lk.length - (intOf iv).toNat)
      case atStart => exact ⟨0, Nat.zero_le _, rfl, HB.out⟩
      case round =>
        clear HB
        obtain ⟨j, hj, rfl, ba⟩ := hrel
        by_cases hjn : j < lk.length
        · have i4 : (j : Int) < (lk.length : Int) := by omega
          obtain ⟨bb, off, q, rfl, hb, hq, d0, d1⟩ := pr_at (HL.out.1.after ba.aft) hjn
          obtain ⟨⟨q0, q1⟩, q2, q3⟩ := HL.out.2 q (List.mem_of_getElem? hq)
          have HT2 := hideIt (pss_take hq S)
          generalize pss (lk.take j) S = R at *
          have k1 := and7 q0 q1
          have k2 := and7 q2 q3
          obtain ⟨qa, hqa⟩ : ∃ n : Nat, q.1 = (n : Int) := ⟨q.1.toNat, by omega⟩
          obtain ⟨qb, hqb⟩ : ∃ n : Nat, q.2 = (n : Int) := ⟨q.2.toNat, by omega⟩
          rw [hqa] at d0 k1
          rw [hqb] at d1 k2
          rw [hqa, hqb, Int.toNat_natCast, Int.toNat_natCast] at HT2
          have a8 : qa < 8 := by omega
          have b8 : qb < 8 := by omega
          have i5 : (qa : Int) < 8 := by omega
          have i6 : (qb : Int) < 8 := by omega
          have c2 := blk_cell ba.at0 (baC_at R b8)
          have c1 := blk_cell ba.at0 (baC_at R a8)
          have s1 := blk_soft ba.at0 qa
          have lg := blk_lt ba.at0
          have HB := hideIt ba
          have HA8 := hideIt a8
          have x1 := indexB8 (w.heap.size + 1) a8
          have x2 := indexB8 (w.heap.size + 1) b8
          clear ba hq hqa hqb q0 q1 q2 q3
          rcases hR : R qb with _ | _
          · rw [hR] at c2
            rw [hR, if_neg (by decide)] at HT2
            go_wp2_with fail
            go_roundw
            case rel => exact ⟨j + 1, by omega, by go_num, by rw [HT2.out]; exact HB.out⟩
            case measure => simp [intOf]; omega
          · rw [hR] at c2
            rw [hR, if_pos rfl] at HT2
            go_wp2_with fail
            go_roundw
            case rel => exact ⟨j + 1, by omega, by go_num, by rw [HT2.out]; exact HB.out.set HA8.out⟩
            case measure => simp [intOf]; omega
        · have i4 : ¬ (j : Int) < (lk.length : Int) := by omega
          rw [List.take_of_length_le (by omega), ← HS.out] at ba
          have HB := hideIt ba
          clear ba
          go_wp2_with fail
          go_roundw
          case rel => exact ⟨n + 1, by omega, by go_num, HB.out⟩
          case measure => simp [intOf]; omega
    · have i3 : ¬ (n : Int) < 8 := by omega
      obtain rfl : n = 8 := by omega
      have HB := hideIt (show Ba w wr (w.heap.size + 1) w.heap.size (rch lk to) from ba)
      clear ba
      have c0 := blk_cell HB.out.at0 (i := 0) rfl
      have d0 := blk_cell HB.out.at1 (i := 0) rfl
      have s0 := blk_soft HB.out.at1 0
      have c1 := blk_cell HB.out.at0 (i := 1) rfl
      have d1 := blk_cell HB.out.at1 (i := 1) rfl
      have s1 := blk_soft HB.out.at1 1
      have c2 := blk_cell HB.out.at0 (i := 2) rfl
      have d2 := blk_cell HB.out.at1 (i := 2) rfl
      have s2 := blk_soft HB.out.at1 2
      have c3 := blk_cell HB.out.at0 (i := 3) rfl
      have d3 := blk_cell HB.out.at1 (i := 3) rfl
      have s3 := blk_soft HB.out.at1 3
      have c4 := blk_cell HB.out.at0 (i := 4) rfl
      have d4 := blk_cell HB.out.at1 (i := 4) rfl
      have s4 := blk_soft HB.out.at1 4
      have c5 := blk_cell HB.out.at0 (i := 5) rfl
      have d5 := blk_cell HB.out.at1 (i := 5) rfl
      have s5 := blk_soft HB.out.at1 5
      have c6 := blk_cell HB.out.at0 (i := 6) rfl
      have d6 := blk_cell HB.out.at1 (i := 6) rfl
      have s6 := blk_soft HB.out.at1 6
      have c7 := blk_cell HB.out.at0 (i := 7) rfl
      have d7 := blk_cell HB.out.at1 (i := 7) rfl
      have s7 := blk_soft HB.out.at1 7
      go_wp2_with fail
      have e0 := blk_put HB.out.at1 0 (.bool (rch lk to 0))
      have e1 := blk_put e0 1 (.bool (rch lk to 1))
      have e2 := blk_put e1 2 (.bool (rch lk to 2))
      have e3 := blk_put e2 3 (.bool (rch lk to 3))
      have e4 := blk_put e3 4 (.bool (rch lk to 4))
      have e5 := blk_put e4 5 (.bool (rch lk to 5))
      have e6 := blk_put e5 6 (.bool (rch lk to 6))
      have e7 := blk_put e6 7 (.bool (rch lk to 7))
      have b0 := HB.out.aft.then (but_one wr w.heap.size 0 (.bool (rch lk to 0))) (fun k hk e => by have e : k = w.heap.size := e; omega)
      have b1 := b0.then (but_one _ w.heap.size 1 (.bool (rch lk to 1))) (fun k hk e => by have e : k = w.heap.size := e; omega)
      have b2 := b1.then (but_one _ w.heap.size 2 (.bool (rch lk to 2))) (fun k hk e => by have e : k = w.heap.size := e; omega)
      have b3 := b2.then (but_one _ w.heap.size 3 (.bool (rch lk to 3))) (fun k hk e => by have e : k = w.heap.size := e; omega)
      have b4 := b3.then (but_one _ w.heap.size 4 (.bool (rch lk to 4))) (fun k hk e => by have e : k = w.heap.size := e; omega)
      have b5 := b4.then (but_one _ w.heap.size 5 (.bool (rch lk to 5))) (fun k hk e => by have e : k = w.heap.size := e; omega)
      have b6 := b5.then (but_one _ w.heap.size 6 (.bool (rch lk to 6))) (fun k hk e => by have e : k = w.heap.size := e; omega)
      have b7 := b6.then (but_one _ w.heap.size 7 (.bool (rch lk to 7))) (fun k hk e => by have e : k = w.heap.size := e; omega)
      exact ret_cell (cs := baC (rch lk to)) Try.results15 rfl e7 Try.underlying52 rfl Try.infoBa rfl ⟨rfl, b7⟩
end Go.Proofs.Ytkjjjibglaffnaa
