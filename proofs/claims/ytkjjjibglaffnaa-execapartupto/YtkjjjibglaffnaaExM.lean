/-
  Which tables may be: IndexFunc, ContainsFunc, checkTable.
-/
import Derived.Test.YtkjjjibglaffnaaExJ
namespace Go.Proofs.Ytkjjjibglaffnaa
open Go.RowKit
set_option maxRecDepth 8000
def bad (lo hi z : Int) : Bool := decide (z < lo) || decide (hi < z)
def badF (n : Int) : List (List Int) → Int
  | [] => 0
  | r :: t => if 8 < r.length then 6 else if r.any (bad 0 (n - 1)) then 210 else badF n t
def badL (n : Int) : List (Int × Int) → Int
  | [] => 0
  | q :: t => if [q.1, q.2].any (bad 0 (n - 1)) then 210 else badL n t
/-- Which number a table is refused by. -/
def chkT (fr : List (List Int)) (st : List Int) (lk : List (Int × Int)) : Int :=
  if (bad 1 16 fr.length || (bad 1 8 st.length || st.any (bad 0 1048576))) = true then 2
  else if badF st.length fr ≠ 0 then badF st.length fr
  else if 16 < lk.length then 6 else badL st.length lk
def prE : Enc (Int × Int) where
  k := 2
  enc x := [.int .i64 x.1, .int .i64 x.2]
  len _ := rfl
  one x u hu := by
    simp only [List.mem_cons, List.not_mem_nil, or_false] at hu
    rcases hu with rfl | rfl <;> rfl
  pos := by decide
theorem pr_at {w : World} {a : Option Addr} {n : Nat} {xs : List (Int × Int)} (h : GRow prE w a n xs) {i : Nat} (hi : i < n) : ∃ b off x, a = some ⟨b, off, none⟩ ∧ b < w.heap.size ∧ xs[i]? = some x ∧ w.cell? ⟨b, off + i * 2, none⟩ = some (.int .i64 x.1) ∧ w.cell? ⟨b, off + i * 2 + 1, none⟩ = some (.int .i64 x.2) := by
  obtain ⟨b, off, x, e, hb, hx, h1⟩ := h.2 i hi
  exact ⟨b, off, x, e, hb, hx, h1 0 _ rfl, h1 1 _ rfl⟩
/-- Where the first one stands, or that there is none. -/
def Idx (zs : List Int) (lo hi : Int) (w : World) (e : Ending) (w' : World) : Prop := ∃ i : Int, e = .returned (.int .i64 i) ∧ decide (0 ≤ i) = zs.any (bad lo hi) ∧ -1 ≤ i ∧ i ≤ 17592186044416 ∧ After w w'
set_option maxHeartbeats 1000000 in
theorem indexFunc_any {w : World} {a b : Nat} {lo hi : Int} (h1 : w.heap[a]? = some (.cells #[.int .i64 lo] 3 (0, 0))) (h2 : w.heap[b]? = some (.cells #[.int .i64 hi] 3 (0, 0))) {ra : Option Addr} {n c : Nat} {zs : List Int} (hr : GRow inE w ra n zs) (hn : n ≤ 17592186044416) :
    Calls Try.prog 39 #[.slice ra n c, .func (.func 38) #[] #[Ptr a, Ptr b]] w (Idx zs lo hi w) := by
  have HH := hideIt (And.intro h1 (And.intro h2 hr))
  have i1 : (n : Int) ≤ 17592186044416 := by omega
  clear h1 h2 hr hn
  go_enter Try.func39, Try.ntmps39
  go_wp2_with fail
  go_loopw [8] (fun iv wr => ∃ j : Nat, j ≤ n ∧ iv = .int .i64 j ∧ After w wr ∧ (zs.take j).any (bad lo hi) = false) (fun iv _ => n - (intOf iv).toNat)
  case atStart => exact ⟨0, Nat.zero_le _, rfl, After.rfl, rfl⟩
  case round =>
    obtain ⟨j, hj, rfl, af, hno⟩ := hrel
    by_cases hjn : j < n
    · have i2 : (j : Int) < (n : Int) := by omega
      obtain ⟨bb, off, z, rfl, hb, hz, c0⟩ := in_at (HH.out.2.2.after af) hjn
      have e1 := (af.block a (blk_lt HH.out.1) (fun t => t)).trans HH.out.1
      have e2 := (af.block b (blk_lt HH.out.2.1) (fun t => t)).trans HH.out.2.1
      have HB := hideIt (bey_any e1 e2 z)
      obtain ⟨hjl, ez⟩ := List.getElem?_eq_some_iff.1 hz
      have ht : (zs.take (j + 1)).any (bad lo hi) = bad lo hi z := by
        rw [List.take_succ_eq_append_getElem hjl, List.any_append, hno, ez]; simp
      have HA := hideIt (And.intro af (And.intro ht hz))
      clear e1 e2 hno ht hz hjl ez af
      go_wp2_with fail
      refine HB.out.mono ?_
      rintro e w1 ⟨rfl, hw⟩
      obtain rfl := hw.symm
      rcases hq : (decide (z < lo) || decide (hi < z)) with _ | _
      · go_wp2_with fail
        go_roundw
        case rel => exact ⟨j + 1, by omega, by go_num, HA.out.1, by rw [HA.out.2.1]; exact hq⟩
        case measure => simp [intOf]; omega
      · go_wp2_with fail
        go_ret
        refine ⟨(j : Int), rfl, ?_, by omega, by omega, HA.out.1⟩
        rw [decide_eq_true (show (0 : Int) ≤ (j : Int) by omega)]
        have hm : z ∈ zs := List.mem_of_getElem? HA.out.2.2
        exact (List.any_eq_true.2 ⟨z, hm, hq⟩).symm
    · have i2 : ¬ (j : Int) < (n : Int) := by omega
      have HA := hideIt (And.intro af hno)
      clear af hno
      go_wp2_with fail
      go_ret
      refine ⟨-1, rfl, ?_, by omega, by omega, HA.out.1⟩
      have h3 := HA.out.2
      rw [List.take_of_length_le (by rw [HH.out.2.2.1]; omega)] at h3
      rw [h3]; rfl
def Cont (zs : List Int) (lo hi : Int) (w : World) (e : Ending) (w' : World) : Prop := e = .returned (.bool (zs.any (bad lo hi))) ∧ After w w'
theorem contains_any {w : World} {a b : Nat} {lo hi : Int} (h1 : w.heap[a]? = some (.cells #[.int .i64 lo] 3 (0, 0))) (h2 : w.heap[b]? = some (.cells #[.int .i64 hi] 3 (0, 0))) {ra : Option Addr} {n c : Nat} {zs : List Int} (hr : GRow inE w ra n zs) (hn : n ≤ 17592186044416) :
    Calls Try.prog 32 #[.slice ra n c, .func (.func 38) #[] #[Ptr a, Ptr b]] w (Cont zs lo hi w) := by
  have HI := hideIt (indexFunc_any (c := c) h1 h2 hr hn)
  clear h1 h2 hr hn
  go_enter Try.func32, Try.ntmps32
  go_wp2_with fail
  refine HI.out.mono ?_
  rintro e w1 ⟨i, rfl, hd, b1, b2, af⟩
  have HD := hideIt (And.intro hd af)
  clear hd af
  go_wp2_with fail
  go_ret
  exact ⟨ret_bool HD.out.1, HD.out.2⟩
end Go.Proofs.Ytkjjjibglaffnaa
