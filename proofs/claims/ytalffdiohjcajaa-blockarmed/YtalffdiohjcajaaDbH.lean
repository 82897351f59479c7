/-
  The statements' helper: 64 bytes of one number.
-/
import Derived.Test.YtalffdiohjcajaaDbG
namespace Go.Proofs.Ytalffdiohjcajaa
open Go.RowKit
set_option maxRecDepth 8000
def allB (v : Int) : List Int := List.replicate 64 (v % 256)
theorem allB_sec (v : Int) : Sec (allB v) := ⟨by simp [allB], fun z hz => by
  have := (List.mem_replicate.1 hz).2
  omega⟩
theorem allB_at (v : Int) {i : Nat} (hi : i < 64) : (allB v).getD i 0 = v % 256 := by
  unfold allB
  rw [List.getD_eq_getElem?_getD, List.getElem?_replicate, if_pos hi]
  rfl
/-- Behind the first k. -/
def allK (v : Int) (k : Nat) : List Int := List.replicate k (v % 256) ++ List.replicate (64 - k) 0
theorem allK_len (v : Int) {k : Nat} (h : k ≤ 64) : (allK v k).length = 64 := by simp [allK]; omega
theorem allK_set (v : Int) {k : Nat} (h : k < 64) : (u8s (allK v k)).toArray.setIfInBounds k (.int .u8 (v % 256)) = (u8s (allK v (k + 1))).toArray := by
  apply Array.ext_getElem?
  intro j
  rw [Array.getElem?_setIfInBounds, List.getElem?_toArray, List.getElem?_toArray, List.size_toArray, u8s_length, allK_len v (by omega)]
  unfold u8s allK
  rw [List.map_append, List.map_append, List.map_replicate, List.map_replicate, List.map_replicate, List.map_replicate]
  by_cases e : k = j
  · subst e
    rw [if_pos rfl, if_pos h, List.getElem?_append_left (by simp), List.getElem?_replicate, if_pos (by omega)]
  · rw [if_neg e]
    by_cases e2 : j < k
    · rw [List.getElem?_append_left (by simpa using e2), List.getElem?_append_left (by simp; omega), List.getElem?_replicate, List.getElem?_replicate, if_pos e2, if_pos (by omega)]
    · rw [List.getElem?_append_right (by simp; omega), List.getElem?_append_right (by simp; omega), List.getElem?_replicate, List.getElem?_replicate]
      simp only [List.length_replicate]
      by_cases e3 : j < 64
      · rw [if_pos (by omega), if_pos (by omega)]
      · rw [if_neg (by omega), if_neg (by omega)]
theorem bytes_row {w : World} {q : Nat} {T : TypeId} {b : List Int} (h : w.heap[q]? = some (.cells (u8s b).toArray T (0, 0))) (hb : Sec b) : Row w (some ⟨q, 0, none⟩) 64 b :=
  ⟨hb.1, hb.2, fun i hi => ⟨q, 0, rfl, blk_lt h, by
    rw [Nat.zero_add]
    refine blk_cell h ?_
    have hi' : i < b.length := by rw [hb.1]; exact hi
    simp [u8s, hi']⟩⟩
theorem make64 (w : World) : (Instr.makeSlice 38 (.int .i64 64) (.int .i64 64)).run Try.prog w = .ok (.slice (some ⟨w.heap.size, 0, none⟩) 64 64) (w.alloc (.cells (u8s sec0).toArray 5)) := by
  obtain ⟨i0, hi, hz0, hz1, hz2⟩ := info_parts Try.info5
  have hm := run_make (P := Try.prog) w 38 5 i0 (.int .u8 0) Try.underlying38 hi hz0 .i64 .i64 64 64 (by omega) (by omega) (by rw [hz2]; omega) (by omega)
  rw [hz1] at hm
  have e : madeCells (Value.int IntKind.u8 0).cells (Int.toNat 64 * 1) = (u8s sec0).toArray := by kernel_rfl
  rw [e] at hm
  exact hm
theorem all_at (w : World) (v : Int) : Calls Try.prog 13 #[.int .i64 v] w fun e w' => e = .returned (.slice (some ⟨w.heap.size, 0, none⟩) 64 64) ∧ Row w' (some ⟨w.heap.size, 0, none⟩) 64 (allB v) ∧ After w w' := by
  have hm := make64 w
  obtain ⟨V1, hV1⟩ : ∃ V, V = w.alloc (.cells (u8s sec0).toArray 5) := ⟨_, rfl⟩
  rw [← hV1] at hm
  have k1 : V1.heap[w.heap.size]? = some (.cells (u8s (allK v 0)).toArray 5 (0, 0)) := by rw [hV1]; exact heap_alloc_new w _
  have a1 : After w V1 := by rw [hV1]; exact After.rfl.alloc _
  have HV := hideIt (And.intro k1 a1)
  clear hV1 k1 a1
  obtain ⟨q, hq⟩ : ∃ q, w.heap.size = q := ⟨_, rfl⟩
  rw [hq] at hm HV
  have HQ := hideIt hq
  clear hq
  have hu : IntKind.u8.wrap v = v % 256 := by unfold IntKind.wrap; simp [IntKind.bits, IntKind.signed]
  go_enter Try.func13, Try.ntmps13
  go_wp2_with fail
  go_loopw [4] (fun i wr => ∃ j : Nat, j ≤ 64 ∧ i = .int .i64 j ∧ wr.heap[q]? = some (.cells (u8s (allK v j)).toArray 5 (0, 0)) ∧ After w wr) (fun i _ => 64 - (intOf i).toNat)
  case atStart => exact ⟨0, by omega, rfl, HV.out.1, HV.out.2⟩
  case round =>
    obtain ⟨j, hj, rfl, hk, af⟩ := hrel
    have hs := (allK_set v (k := j))
    have hl := allK_len v hj
    by_cases hjn : j < 64
    · have i1 : (j : Int) < 64 := by omega
      have cq : wr.cell? ⟨q, j, none⟩ = some (.int .u8 ((allK v j).getD j 0)) := blk_cell hk (by
        have : j < (allK v j).length := by omega
        simp [u8s, this])
      have fq := blk_soft hk j
      have hp := blk_put hk j (.int .u8 (v % 256))
      rw [hs hjn] at hp
      have H := hideIt (And.intro hp af)
      clear hk af hp hs hl
      generalize (allK v j).getD j 0 = y at *
      go_wp2_with fail
      refine ⟨⟨j + 1, by omega, by simp, H.out.1, ?_⟩, by simp [intOf]; omega⟩
      exact H.out.2.set ⟨q, j, none⟩ (by have := HQ.out; show w.heap.size ≤ q; omega) _
    · obtain rfl : j = 64 := by omega
      have H := hideIt (And.intro hk af)
      clear hk af hs hl
      go_wp2_with fail
      go_ret
      have he := H.out.1
      rw [show allK v 64 = allB v from List.append_nil _] at he
      have hq := HQ.out
      subst hq
      exact ⟨rfl, bytes_row he (allB_sec v), H.out.2⟩
theorem all_any (w : World) (v : Int) : Calls Try.prog 13 #[.int .i64 v] w fun e w' => ∃ q, e = .returned (.slice (some ⟨q, 0, none⟩) 64 64) ∧ Row w' (some ⟨q, 0, none⟩) 64 (allB v) ∧ w.heap.size ≤ q ∧ After w w' :=
  (all_at w v).mono (fun _ _ h => ⟨_, h.1, h.2.1, Nat.le_refl _, h.2.2⟩)
end Go.Proofs.Ytalffdiohjcajaa
