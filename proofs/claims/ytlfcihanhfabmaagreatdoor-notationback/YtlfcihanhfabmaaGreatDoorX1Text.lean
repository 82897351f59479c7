/-
  The contract of Text of package fixed.
-/
import Derived.Test.YtlfcihanhfabmaaGreatDoorX1PartText
import Derived.Lib.AppendIntMem
namespace Go.Proofs.YtlfcihanhfabmaaGreatDoor.L1
open Go.RowKit
set_option maxRecDepth 8000
/-- A string of these bytes (a plain name: the walk does not look into it). -/
def S (l : List UInt8) : ByteArray := ⟨l.toArray⟩
theorem S_size (l : List UInt8) : (S l).size = l.length := rfl
theorem S_list (l : List UInt8) : (S l).data.toList = l := rfl
theorem S_cat (a b : List UInt8) : S a ++ S b = S (a ++ b) := append_lists a b
theorem itoa_any (n : Int) (h0 : 0 ≤ n) (h1 : n ≤ 2147483647) (w : World) (htab : Lib.TabIs Tryz.prog w "internal/strconv.uint64pow10" .u64 Lib.pow10Tab) :
    Calls Tryz.prog 68 #[.int .i64 n] w fun e w' => e = .returned (.string (S (Lib.itoa n))) ∧ After w w' := by
  refine (Tryz.strconv_Itoa n (by omega) (by omega) w htab).mono ?_
  rintro e w' ⟨rfl, k, os, rfl⟩
  exact ⟨rfl, Lib.below_grow w.heap.size w (Nat.le_refl _) k os⟩
theorem part_S (p : Int) (w : World) (h0 : 0 ≤ p) (h1 : p < 1000) :
    Calls Tryz.prog 94 #[.int .i64 p] w fun e w' => e = .returned (.string (S (partL p))) ∧ After w w' := partText_any p w h0 h1
theorem itoa_len (n : Int) (h0 : 0 ≤ n) (h1 : n ≤ 2147483647) : (Lib.itoa n).length ≤ 10 := by
  unfold Lib.itoa
  rw [if_neg (by omega), Lib.decDigits_length]
  have e : ∀ k u : Nat, u < 10 ^ (k + 1) → Lib.nDigits u ≤ k + 1 := by
    intro k
    induction k with
    | zero => intro u hu; rw [Lib.nDigits_small (by omega)]; omega
    | succ k ih =>
      intro u hu
      by_cases hs : u < 10
      · rw [Lib.nDigits_small hs]; omega
      · rw [Lib.nDigits_big hs]
        have := ih (u / 10) (by rw [Nat.pow_succ] at hu; omega)
        omega
  exact e 9 n.toNat (by omega)
theorem part_len (p : Int) : (partL p).length ≤ 4 := by
  unfold partL; split; decide; split; simp; split <;> simp
set_option maxRecDepth 100000 in
set_option maxHeartbeats 400000 in
theorem text_any (v : Int) (w : World) (htab : Lib.TabIs Tryz.prog w "internal/strconv.uint64pow10" .u64 Lib.pow10Tab) :
    Calls Tryz.prog 67 #[.int .i64 v] w fun e w' => e = .returned (.string (S (textL v))) ∧ After w w' := by
  have c1 := cl_lo v; have c2 := cl_hi v
  have a1 : 0 ≤ ab (cl v) := by rw [ab_def]; omega
  have a2 : ab (cl v) ≤ 2147483647 := by rw [ab_def]; omega
  have d1 : 0 ≤ ab (cl v) / 1000 := by omega
  have d2 : ab (cl v) / 1000 ≤ 2147483647 := by omega
  have d3 : 0 ≤ ab (cl v) % 1000 := by omega
  have d4 : ab (cl v) % 1000 < 1000 := by omega
  have i1 := itoa_len _ d1 d2
  have i2 := part_len (ab (cl v) % 1000)
  have z1 : (S (Lib.itoa (ab (cl v) / 1000))).size ≤ 10 := i1
  have z2 : (S (partL (ab (cl v) % 1000))).size ≤ 4 := i2
  have HT := hideIt htab
  clear htab i1 i2
  by_cases hn : cl v < 0
  · have k1 : (⟨#[45]⟩ : ByteArray) ++ S (Lib.itoa (ab (cl v) / 1000)) = S (45 :: Lib.itoa (ab (cl v) / 1000)) := S_cat [45] _
    have k2 : S (45 :: Lib.itoa (ab (cl v) / 1000)) ++ S (partL (ab (cl v) % 1000)) = S (textL v) := by
      rw [S_cat]; unfold textL; rw [if_pos hn]; rfl
    have z3 : (S (45 :: Lib.itoa (ab (cl v) / 1000))).size ≤ 11 := by
      have : (Lib.itoa (ab (cl v) / 1000)).length ≤ 10 := z1
      show (45 :: Lib.itoa (ab (cl v) / 1000)).length ≤ 11
      simp; omega
    go_enter Tryz.func67, Tryz.ntmps67
    go_wp2_with fail
    refine (clamp_any v _).mono ?_
    rintro e w' ⟨rfl, rfl⟩
    go_wp2_with fail
    refine (size_any (cl v) _ (by omega) (by omega)).mono ?_
    rintro e w' ⟨rfl, rfl⟩
    go_wp2_with fail
    refine (itoa_any (ab (cl v) / 1000) (by omega) (by omega) _ HT.out).mono ?_
    rintro e w1 ⟨rfl, hb1⟩
    go_wp2_with fail
    refine (size_any (cl v) _ (by omega) (by omega)).mono ?_
    rintro e w' ⟨rfl, rfl⟩
    go_wp2_with fail
    refine (part_S (ab (cl v) % 1000) _ (by omega) (by omega)).mono ?_
    rintro e w2 ⟨rfl, hb2⟩
    go_wp2
    go_ret
    exact ⟨rfl, After.trans hb1 hb2⟩
  · have k1 : (⟨#[]⟩ : ByteArray) ++ S (Lib.itoa (ab (cl v) / 1000)) = S (Lib.itoa (ab (cl v) / 1000)) := S_cat [] _
    have k2 : S (Lib.itoa (ab (cl v) / 1000)) ++ S (partL (ab (cl v) % 1000)) = S (textL v) := by
      rw [S_cat]; unfold textL; rw [if_neg hn]; rfl
    obtain ⟨T, hT⟩ : ∃ T, T = S (Lib.itoa (ab (cl v) / 1000)) := ⟨_, rfl⟩
    have hit := itoa_any (ab (cl v) / 1000) (by omega) (by omega) w HT.out
    rw [← hT] at k1 k2 z1 hit
    have HI := hideIt hit
    have HK := hideIt k1
    clear hit hT k1
    go_enter Tryz.func67, Tryz.ntmps67
    go_wp2_with fail
    refine (clamp_any v _).mono ?_
    rintro e w' ⟨rfl, rfl⟩
    go_wp2_with fail
    refine (size_any (cl v) _ (by omega) (by omega)).mono ?_
    rintro e w' ⟨rfl, rfl⟩
    go_wp2_with fail
    refine HI.out.mono ?_
    rintro e w1 ⟨rfl, hb1⟩
    have k1 := HK.out
    go_wp2_with fail
    refine (size_any (cl v) _ (by omega) (by omega)).mono ?_
    rintro e w' ⟨rfl, rfl⟩
    go_wp2_with fail
    refine (part_S (ab (cl v) % 1000) _ (by omega) (by omega)).mono ?_
    rintro e w2 ⟨rfl, hb2⟩
    go_wp2
    go_ret
    exact ⟨rfl, After.trans hb1 hb2⟩
end Go.Proofs.YtlfcihanhfabmaaGreatDoor.L1
