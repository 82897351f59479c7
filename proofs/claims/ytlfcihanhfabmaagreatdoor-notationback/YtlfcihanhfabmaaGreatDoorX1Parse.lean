/-
  The contracts of strings.Cut at a point, of thousandths and of Parse of package fixed.
-/
import Derived.Test.YtlfcihanhfabmaaGreatDoorX1Dig
import Derived.Test.YtlfcihanhfabmaaGreatDoorShelf
import Derived.Lib.CutLaws
namespace Go.Proofs.YtlfcihanhfabmaaGreatDoor.L1
open Go.RowKit
set_option maxRecDepth 8000

set_option maxHeartbeats 400000 in
theorem liteCut_point (s : ByteArray) (w : World) (hs : s.size ≤ maxLen) :
    Calls Tryz.prog 147 #[.string s, .string ⟨#[46]⟩] w fun e w' => e = .returned (.tuple #[.string ⟨(befL s.data.toList).toArray⟩, .string ⟨(aftL s.data.toList).toArray⟩, .bool (hasB s.data.toList)]) ∧ ∃ n, w' = w.drewN n := by
  unfold maxLen at hs
  have hone : Lib.indexB s ⟨#[46]⟩ = Lib.indexByte s.data.toList 46 := Lib.index_one s.data.toList 46
  have hcut : Lib.cut s.data.toList (⟨#[46]⟩ : ByteArray).data.toList = (befL s.data.toList, aftL s.data.toList, hasB s.data.toList) := cut_point s.data.toList
  rcases Lib.indexB_cases s ⟨#[46]⟩ with hix | ⟨i, hix, hroom⟩
  · obtain ⟨e1, e2, e3⟩ := Lib.cutB_miss s ⟨#[46]⟩ hix
    rw [hcut] at e1 e2 e3
    simp only at e1 e2 e3
    rw [e1, e2, e3]
    rw [hone] at hix
    clear hone hcut e1 e2 e3
    go_enter Tryz.func147, Tryz.ntmps147
    go_wp2_with (go_at_call 61; refine (Tryz.stringslite_Index_one _ _ _).mono ?_; rintro e w' ⟨rfl, rfl⟩; rw [hix])
    go_ret3
    exact ⟨rfl, 0, rfl⟩
  · obtain ⟨e1, e2, e3⟩ := Lib.cutB_hit s ⟨#[46]⟩ i hix
    rw [hcut] at e1 e2 e3
    simp only at e1 e2 e3
    rw [e1, e2, e3]
    rw [hone] at hix
    clear hone hcut e1 e2 e3
    have hroom' : i + 1 ≤ s.size := hroom
    clear hroom
    have c1 : (0 : Int) ≤ ↑i := by omega
    have c2 : (↑i : Int) ≤ ↑s.size := by omega
    have c3 : (0 : Int) ≤ ↑i + 1 := by omega
    have c4 : (↑i + 1 : Int) ≤ ↑s.size := by omega
    go_enter Tryz.func147, Tryz.ntmps147
    go_wp2_with (go_at_call 61; refine (Tryz.stringslite_Index_one _ _ _).mono ?_; rintro e w' ⟨rfl, rfl⟩; rw [hix])
    go_region
    go_wp2
    go_ret3
    exact ⟨rfl, 1, rfl⟩
set_option maxHeartbeats 400000 in
theorem cut_any (s : ByteArray) (w : World) (hs : s.size ≤ maxLen) :
    Calls Tryz.prog 138 #[.string s, .string ⟨#[46]⟩] w fun e w' => e = .returned (.tuple #[.string ⟨(befL s.data.toList).toArray⟩, .string ⟨(aftL s.data.toList).toArray⟩, .bool (hasB s.data.toList)]) ∧ ∃ n, w' = w.drewN n := by
  go_enter Tryz.func138, Tryz.ntmps138
  go_wp2_with (go_at_call 147; refine (liteCut_point _ _ hs).mono ?_; rintro e w' ⟨rfl, n, rfl⟩)
  go_ret3
  exact ⟨rfl, _, rfl⟩

theorem append_list (s : ByteArray) (l : List UInt8) : s ++ (⟨l.toArray⟩ : ByteArray) = ⟨(s.data.toList ++ l).toArray⟩ := by
  obtain ⟨⟨a⟩⟩ := s
  rw [ByteArray.ext_iff]
  simp
theorem pad_any (s : ByteArray) (c : Nat) (hc : s.size + c = 3) : s ++ (⟨(Lib.repeatL [48] c).toArray⟩ : ByteArray) = ⟨(padL s.data.toList).toArray⟩ := by
  have hl : s.data.toList.length = s.size := Array.length_toList
  rw [append_list]
  unfold padL
  rw [hl, show 3 - s.size = c by omega]
set_option maxHeartbeats 400000 in
theorem thousandths_any (s : ByteArray) (w : World) (h3 : s.size ≤ 3) (hd : digB s.data.toList = true) :
    Calls Tryz.prog 142 #[.string s] w fun e w' => e = .returned (.int .i64 (numL (padL s.data.toList))) ∧ After w w' := by
  have hl : s.data.toList.length = s.size := Array.length_toList
  have hP : Hid ((⟨(padL s.data.toList).toArray⟩ : ByteArray).size ≤ 7 ∧ digB (padL s.data.toList) = true) := ⟨by
    have : (padL s.data.toList).length = 3 := pad_len (by rw [hl]; exact h3)
    show (padL s.data.toList).length ≤ 7
    omega, pad_dig hd⟩
  obtain ⟨c, hc⟩ : ∃ c : Nat, s.size + c = 3 := ⟨3 - s.size, by omega⟩
  have hpad := pad_any s c hc
  have hcc : c ≤ 3 := by omega
  have hz : (3 : Int) - ↑s.size = ↑c := by omega
  have hrl : (Lib.repeatL [48] c).length = c := by rw [Lib.repeatL_length]; simp
  have hrs : (⟨(Lib.repeatL [48] c).toArray⟩ : ByteArray).size = c := hrl
  clear hl hrl
  go_enter Tryz.func142, Tryz.ntmps142
  go_wp2_with fail
  refine (Tryz.strings_Repeat ⟨#[48]⟩ c _ (by omega) (by show 1 * c ≤ _; omega)).mono ?_
  rintro e w1 ⟨rfl, hb1⟩
  have hpad' : s ++ (⟨(Lib.repeatL (⟨#[48]⟩ : ByteArray).data.toList c).toArray⟩ : ByteArray) = ⟨(padL s.data.toList).toArray⟩ := hpad
  have hrs' : (⟨(Lib.repeatL (⟨#[48]⟩ : ByteArray).data.toList c).toArray⟩ : ByteArray).size = c := hrs
  clear hpad hrs
  go_wp2_with fail
  refine (number_any ⟨(padL s.data.toList).toArray⟩ _ hP.out.1 hP.out.2).mono ?_
  rintro e w2 ⟨rfl, hb2⟩
  go_wp2
  go_ret
  exact ⟨rfl, After.trans hb1 hb2⟩

theorem cutPrefix_any (s : ByteArray) (w : World) :
    Calls Tryz.prog 137 #[.string s, .string ⟨#[45]⟩] w fun e w' => e = .returned (.tuple #[.string ⟨(bodyL s.data.toList).toArray⟩, .bool (negB s.data.toList)]) ∧ w' = w := Tryz.strings_CutPrefix s ⟨#[45]⟩ w
theorem ret_two {a b c d : Int} (h : a = b) (k : c = d) : Ending.returned (.tuple #[.int .i64 a, .int .i64 c]) = .returned (.tuple #[.int .i64 b, .int .i64 d]) := by rw [h, k]
theorem after_draws (w : World) (n : Nat) {w1 : World} (h : Below (w.drewN n).heap.size (w.drewN n) w1) : After w w1 := After.trans (After.draws After.rfl n) h
set_option maxHeartbeats 800000 in
theorem parse_nowhole (s : ByteArray) (w : World) (HB : Hid ((⟨(bodyL s.data.toList).toArray⟩ : ByteArray).size ≤ maxLen ∧ (⟨(befL (bodyL s.data.toList)).toArray⟩ : ByteArray).size ≤ maxLen ∧ (⟨(aftL (bodyL s.data.toList)).toArray⟩ : ByteArray).size ≤ maxLen)) (h1 : wholeB (befL (bodyL s.data.toList)) = false) :
    Calls Tryz.prog 130 #[.string s] w fun e w' => e = .returned (.tuple #[.int .i64 0, .int .i64 4]) ∧ After w w' := by
  go_enter Tryz.func130, Tryz.ntmps130
  go_wp2_with fail
  refine (cutPrefix_any s _).mono ?_
  rintro e w' ⟨rfl, rfl⟩
  go_wp2_with fail
  refine (cut_any ⟨(bodyL s.data.toList).toArray⟩ _ HB.out.1).mono ?_
  rintro e w' ⟨rfl, n, rfl⟩
  go_wp2_with fail
  refine (isWhole_any ⟨(befL (bodyL s.data.toList)).toArray⟩ _ HB.out.2.1).mono ?_
  rintro e w1 ⟨rfl, hb1⟩
  go_wp2
  go_ret2
  exact ⟨rfl, after_draws _ n hb1⟩
set_option maxHeartbeats 800000 in
theorem parse_nopart (s : ByteArray) (w : World) (HB : Hid ((⟨(bodyL s.data.toList).toArray⟩ : ByteArray).size ≤ maxLen ∧ (⟨(befL (bodyL s.data.toList)).toArray⟩ : ByteArray).size ≤ maxLen ∧ (⟨(aftL (bodyL s.data.toList)).toArray⟩ : ByteArray).size ≤ maxLen)) (h1 : wholeB (befL (bodyL s.data.toList)) = true) (h2 : hasB (bodyL s.data.toList) = true) (h3 : partB (aftL (bodyL s.data.toList)) = false) :
    Calls Tryz.prog 130 #[.string s] w fun e w' => e = .returned (.tuple #[.int .i64 0, .int .i64 4]) ∧ After w w' := by
  go_enter Tryz.func130, Tryz.ntmps130
  go_wp2_with fail
  refine (cutPrefix_any s _).mono ?_
  rintro e w' ⟨rfl, rfl⟩
  go_wp2_with fail
  refine (cut_any ⟨(bodyL s.data.toList).toArray⟩ _ HB.out.1).mono ?_
  rintro e w' ⟨rfl, n, rfl⟩
  go_wp2_with fail
  refine (isWhole_any ⟨(befL (bodyL s.data.toList)).toArray⟩ _ HB.out.2.1).mono ?_
  rintro e w1 ⟨rfl, hb1⟩
  go_wp2_with fail
  refine (isPart_any ⟨(aftL (bodyL s.data.toList)).toArray⟩ _ HB.out.2.2).mono ?_
  rintro e w2 ⟨rfl, hb2⟩
  go_wp2
  go_ret2
  exact ⟨rfl, After.trans (after_draws _ n hb1) hb2⟩
set_option maxHeartbeats 800000 in
theorem parse_pt_zero (s : ByteArray) (w : World) (HB : Hid ((⟨(bodyL s.data.toList).toArray⟩ : ByteArray).size ≤ maxLen ∧ (⟨(befL (bodyL s.data.toList)).toArray⟩ : ByteArray).size ≤ maxLen ∧ (⟨(aftL (bodyL s.data.toList)).toArray⟩ : ByteArray).size ≤ maxLen)) (h1 : wholeB (befL (bodyL s.data.toList)) = true) (h2 : hasB (bodyL s.data.toList) = true) (h3 : partB (aftL (bodyL s.data.toList)) = true) (h4 : negB s.data.toList = true) (h5 : (numL (befL (bodyL s.data.toList)) * 1000 + numL (padL (aftL (bodyL s.data.toList)))) = 0) :
    Calls Tryz.prog 130 #[.string s] w fun e w' => e = .returned (.tuple #[.int .i64 0, .int .i64 4]) ∧ After w w' := by
  have a1 := areB_parts (whole_are h1)
  have a2 := aft_dig (l := bodyL s.data.toList) (by exact Or.inr h3)
  obtain ⟨n1, n2⟩ := num_bd a1.2.2 a1.2.1
  obtain ⟨n3, n4⟩ := num_bd3 (pad_dig a2.2) (pad_len a2.1)
  have HW : Hid ((⟨(befL (bodyL s.data.toList)).toArray⟩ : ByteArray).size ≤ 7 ∧ digB (befL (bodyL s.data.toList)) = true) := ⟨a1.2.1, a1.2.2⟩
  have HA : Hid ((⟨(aftL (bodyL s.data.toList)).toArray⟩ : ByteArray).size ≤ 3 ∧ digB (aftL (bodyL s.data.toList)) = true) := a2
  clear a1 a2
  go_enter Tryz.func130, Tryz.ntmps130
  go_wp2_with fail
  refine (cutPrefix_any s _).mono ?_
  rintro e w' ⟨rfl, rfl⟩
  go_wp2_with fail
  refine (cut_any ⟨(bodyL s.data.toList).toArray⟩ _ HB.out.1).mono ?_
  rintro e w' ⟨rfl, n, rfl⟩
  go_wp2_with fail
  refine (isWhole_any ⟨(befL (bodyL s.data.toList)).toArray⟩ _ HB.out.2.1).mono ?_
  rintro e w1 ⟨rfl, hb1⟩
  go_wp2_with fail
  refine (isPart_any ⟨(aftL (bodyL s.data.toList)).toArray⟩ _ HB.out.2.2).mono ?_
  rintro e w2 ⟨rfl, hb2⟩
  go_wp2_with fail
  refine (number_any ⟨(befL (bodyL s.data.toList)).toArray⟩ _ HW.out.1 HW.out.2).mono ?_
  rintro e w3 ⟨rfl, hb3⟩
  go_wp2_with fail
  refine (thousandths_any ⟨(aftL (bodyL s.data.toList)).toArray⟩ _ HA.out.1 HA.out.2).mono ?_
  rintro e w4 ⟨rfl, hb4⟩
  go_wp2
  go_ret2
  exact ⟨rfl, After.trans (After.trans (After.trans (after_draws _ n hb1) hb2) hb3) hb4⟩
set_option maxHeartbeats 800000 in
theorem parse_pt_bign (s : ByteArray) (w : World) (HB : Hid ((⟨(bodyL s.data.toList).toArray⟩ : ByteArray).size ≤ maxLen ∧ (⟨(befL (bodyL s.data.toList)).toArray⟩ : ByteArray).size ≤ maxLen ∧ (⟨(aftL (bodyL s.data.toList)).toArray⟩ : ByteArray).size ≤ maxLen)) (h1 : wholeB (befL (bodyL s.data.toList)) = true) (h2 : hasB (bodyL s.data.toList) = true) (h3 : partB (aftL (bodyL s.data.toList)) = true) (h4 : negB s.data.toList = true) (h6 : 2147483647 < (numL (befL (bodyL s.data.toList)) * 1000 + numL (padL (aftL (bodyL s.data.toList))))) :
    Calls Tryz.prog 130 #[.string s] w fun e w' => e = .returned (.tuple #[.int .i64 0, .int .i64 9]) ∧ After w w' := by
  have a1 := areB_parts (whole_are h1)
  have a2 := aft_dig (l := bodyL s.data.toList) (by exact Or.inr h3)
  obtain ⟨n1, n2⟩ := num_bd a1.2.2 a1.2.1
  obtain ⟨n3, n4⟩ := num_bd3 (pad_dig a2.2) (pad_len a2.1)
  have HW : Hid ((⟨(befL (bodyL s.data.toList)).toArray⟩ : ByteArray).size ≤ 7 ∧ digB (befL (bodyL s.data.toList)) = true) := ⟨a1.2.1, a1.2.2⟩
  have HA : Hid ((⟨(aftL (bodyL s.data.toList)).toArray⟩ : ByteArray).size ≤ 3 ∧ digB (aftL (bodyL s.data.toList)) = true) := a2
  clear a1 a2
  go_enter Tryz.func130, Tryz.ntmps130
  go_wp2_with fail
  refine (cutPrefix_any s _).mono ?_
  rintro e w' ⟨rfl, rfl⟩
  go_wp2_with fail
  refine (cut_any ⟨(bodyL s.data.toList).toArray⟩ _ HB.out.1).mono ?_
  rintro e w' ⟨rfl, n, rfl⟩
  go_wp2_with fail
  refine (isWhole_any ⟨(befL (bodyL s.data.toList)).toArray⟩ _ HB.out.2.1).mono ?_
  rintro e w1 ⟨rfl, hb1⟩
  go_wp2_with fail
  refine (isPart_any ⟨(aftL (bodyL s.data.toList)).toArray⟩ _ HB.out.2.2).mono ?_
  rintro e w2 ⟨rfl, hb2⟩
  go_wp2_with fail
  refine (number_any ⟨(befL (bodyL s.data.toList)).toArray⟩ _ HW.out.1 HW.out.2).mono ?_
  rintro e w3 ⟨rfl, hb3⟩
  go_wp2_with fail
  refine (thousandths_any ⟨(aftL (bodyL s.data.toList)).toArray⟩ _ HA.out.1 HA.out.2).mono ?_
  rintro e w4 ⟨rfl, hb4⟩
  go_wp2
  go_ret2
  exact ⟨rfl, After.trans (After.trans (After.trans (after_draws _ n hb1) hb2) hb3) hb4⟩
set_option maxHeartbeats 800000 in
theorem parse_pt_bigp (s : ByteArray) (w : World) (HB : Hid ((⟨(bodyL s.data.toList).toArray⟩ : ByteArray).size ≤ maxLen ∧ (⟨(befL (bodyL s.data.toList)).toArray⟩ : ByteArray).size ≤ maxLen ∧ (⟨(aftL (bodyL s.data.toList)).toArray⟩ : ByteArray).size ≤ maxLen)) (h1 : wholeB (befL (bodyL s.data.toList)) = true) (h2 : hasB (bodyL s.data.toList) = true) (h3 : partB (aftL (bodyL s.data.toList)) = true) (h4 : negB s.data.toList = false) (h6 : 2147483647 < (numL (befL (bodyL s.data.toList)) * 1000 + numL (padL (aftL (bodyL s.data.toList))))) :
    Calls Tryz.prog 130 #[.string s] w fun e w' => e = .returned (.tuple #[.int .i64 0, .int .i64 9]) ∧ After w w' := by
  have a1 := areB_parts (whole_are h1)
  have a2 := aft_dig (l := bodyL s.data.toList) (by exact Or.inr h3)
  obtain ⟨n1, n2⟩ := num_bd a1.2.2 a1.2.1
  obtain ⟨n3, n4⟩ := num_bd3 (pad_dig a2.2) (pad_len a2.1)
  have HW : Hid ((⟨(befL (bodyL s.data.toList)).toArray⟩ : ByteArray).size ≤ 7 ∧ digB (befL (bodyL s.data.toList)) = true) := ⟨a1.2.1, a1.2.2⟩
  have HA : Hid ((⟨(aftL (bodyL s.data.toList)).toArray⟩ : ByteArray).size ≤ 3 ∧ digB (aftL (bodyL s.data.toList)) = true) := a2
  clear a1 a2
  go_enter Tryz.func130, Tryz.ntmps130
  go_wp2_with fail
  refine (cutPrefix_any s _).mono ?_
  rintro e w' ⟨rfl, rfl⟩
  go_wp2_with fail
  refine (cut_any ⟨(bodyL s.data.toList).toArray⟩ _ HB.out.1).mono ?_
  rintro e w' ⟨rfl, n, rfl⟩
  go_wp2_with fail
  refine (isWhole_any ⟨(befL (bodyL s.data.toList)).toArray⟩ _ HB.out.2.1).mono ?_
  rintro e w1 ⟨rfl, hb1⟩
  go_wp2_with fail
  refine (isPart_any ⟨(aftL (bodyL s.data.toList)).toArray⟩ _ HB.out.2.2).mono ?_
  rintro e w2 ⟨rfl, hb2⟩
  go_wp2_with fail
  refine (number_any ⟨(befL (bodyL s.data.toList)).toArray⟩ _ HW.out.1 HW.out.2).mono ?_
  rintro e w3 ⟨rfl, hb3⟩
  go_wp2_with fail
  refine (thousandths_any ⟨(aftL (bodyL s.data.toList)).toArray⟩ _ HA.out.1 HA.out.2).mono ?_
  rintro e w4 ⟨rfl, hb4⟩
  go_wp2
  go_ret2
  exact ⟨rfl, After.trans (After.trans (After.trans (after_draws _ n hb1) hb2) hb3) hb4⟩
set_option maxHeartbeats 800000 in
theorem parse_pt_neg (s : ByteArray) (w : World) (HB : Hid ((⟨(bodyL s.data.toList).toArray⟩ : ByteArray).size ≤ maxLen ∧ (⟨(befL (bodyL s.data.toList)).toArray⟩ : ByteArray).size ≤ maxLen ∧ (⟨(aftL (bodyL s.data.toList)).toArray⟩ : ByteArray).size ≤ maxLen)) (h1 : wholeB (befL (bodyL s.data.toList)) = true) (h2 : hasB (bodyL s.data.toList) = true) (h3 : partB (aftL (bodyL s.data.toList)) = true) (h4 : negB s.data.toList = true) (h5 : 0 < (numL (befL (bodyL s.data.toList)) * 1000 + numL (padL (aftL (bodyL s.data.toList))))) (h6 : (numL (befL (bodyL s.data.toList)) * 1000 + numL (padL (aftL (bodyL s.data.toList)))) ≤ 2147483647) :
    Calls Tryz.prog 130 #[.string s] w fun e w' => e = .returned (.tuple #[.int .i64 (- (numL (befL (bodyL s.data.toList)) * 1000 + numL (padL (aftL (bodyL s.data.toList))))), .int .i64 0]) ∧ After w w' := by
  have a1 := areB_parts (whole_are h1)
  have a2 := aft_dig (l := bodyL s.data.toList) (by exact Or.inr h3)
  obtain ⟨n1, n2⟩ := num_bd a1.2.2 a1.2.1
  obtain ⟨n3, n4⟩ := num_bd3 (pad_dig a2.2) (pad_len a2.1)
  have HW : Hid ((⟨(befL (bodyL s.data.toList)).toArray⟩ : ByteArray).size ≤ 7 ∧ digB (befL (bodyL s.data.toList)) = true) := ⟨a1.2.1, a1.2.2⟩
  have HA : Hid ((⟨(aftL (bodyL s.data.toList)).toArray⟩ : ByteArray).size ≤ 3 ∧ digB (aftL (bodyL s.data.toList)) = true) := a2
  clear a1 a2
  go_enter Tryz.func130, Tryz.ntmps130
  go_wp2_with fail
  refine (cutPrefix_any s _).mono ?_
  rintro e w' ⟨rfl, rfl⟩
  go_wp2_with fail
  refine (cut_any ⟨(bodyL s.data.toList).toArray⟩ _ HB.out.1).mono ?_
  rintro e w' ⟨rfl, n, rfl⟩
  go_wp2_with fail
  refine (isWhole_any ⟨(befL (bodyL s.data.toList)).toArray⟩ _ HB.out.2.1).mono ?_
  rintro e w1 ⟨rfl, hb1⟩
  go_wp2_with fail
  refine (isPart_any ⟨(aftL (bodyL s.data.toList)).toArray⟩ _ HB.out.2.2).mono ?_
  rintro e w2 ⟨rfl, hb2⟩
  go_wp2_with fail
  refine (number_any ⟨(befL (bodyL s.data.toList)).toArray⟩ _ HW.out.1 HW.out.2).mono ?_
  rintro e w3 ⟨rfl, hb3⟩
  go_wp2_with fail
  refine (thousandths_any ⟨(aftL (bodyL s.data.toList)).toArray⟩ _ HA.out.1 HA.out.2).mono ?_
  rintro e w4 ⟨rfl, hb4⟩
  go_wp2
  go_ret2
  exact ⟨rfl, After.trans (After.trans (After.trans (after_draws _ n hb1) hb2) hb3) hb4⟩
set_option maxHeartbeats 800000 in
theorem parse_pt_pos (s : ByteArray) (w : World) (HB : Hid ((⟨(bodyL s.data.toList).toArray⟩ : ByteArray).size ≤ maxLen ∧ (⟨(befL (bodyL s.data.toList)).toArray⟩ : ByteArray).size ≤ maxLen ∧ (⟨(aftL (bodyL s.data.toList)).toArray⟩ : ByteArray).size ≤ maxLen)) (h1 : wholeB (befL (bodyL s.data.toList)) = true) (h2 : hasB (bodyL s.data.toList) = true) (h3 : partB (aftL (bodyL s.data.toList)) = true) (h4 : negB s.data.toList = false) (h6 : (numL (befL (bodyL s.data.toList)) * 1000 + numL (padL (aftL (bodyL s.data.toList)))) ≤ 2147483647) :
    Calls Tryz.prog 130 #[.string s] w fun e w' => e = .returned (.tuple #[.int .i64 (numL (befL (bodyL s.data.toList)) * 1000 + numL (padL (aftL (bodyL s.data.toList)))), .int .i64 0]) ∧ After w w' := by
  have a1 := areB_parts (whole_are h1)
  have a2 := aft_dig (l := bodyL s.data.toList) (by exact Or.inr h3)
  obtain ⟨n1, n2⟩ := num_bd a1.2.2 a1.2.1
  obtain ⟨n3, n4⟩ := num_bd3 (pad_dig a2.2) (pad_len a2.1)
  have HW : Hid ((⟨(befL (bodyL s.data.toList)).toArray⟩ : ByteArray).size ≤ 7 ∧ digB (befL (bodyL s.data.toList)) = true) := ⟨a1.2.1, a1.2.2⟩
  have HA : Hid ((⟨(aftL (bodyL s.data.toList)).toArray⟩ : ByteArray).size ≤ 3 ∧ digB (aftL (bodyL s.data.toList)) = true) := a2
  clear a1 a2
  go_enter Tryz.func130, Tryz.ntmps130
  go_wp2_with fail
  refine (cutPrefix_any s _).mono ?_
  rintro e w' ⟨rfl, rfl⟩
  go_wp2_with fail
  refine (cut_any ⟨(bodyL s.data.toList).toArray⟩ _ HB.out.1).mono ?_
  rintro e w' ⟨rfl, n, rfl⟩
  go_wp2_with fail
  refine (isWhole_any ⟨(befL (bodyL s.data.toList)).toArray⟩ _ HB.out.2.1).mono ?_
  rintro e w1 ⟨rfl, hb1⟩
  go_wp2_with fail
  refine (isPart_any ⟨(aftL (bodyL s.data.toList)).toArray⟩ _ HB.out.2.2).mono ?_
  rintro e w2 ⟨rfl, hb2⟩
  go_wp2_with fail
  refine (number_any ⟨(befL (bodyL s.data.toList)).toArray⟩ _ HW.out.1 HW.out.2).mono ?_
  rintro e w3 ⟨rfl, hb3⟩
  go_wp2_with fail
  refine (thousandths_any ⟨(aftL (bodyL s.data.toList)).toArray⟩ _ HA.out.1 HA.out.2).mono ?_
  rintro e w4 ⟨rfl, hb4⟩
  go_wp2
  go_ret2
  exact ⟨rfl, After.trans (After.trans (After.trans (after_draws _ n hb1) hb2) hb3) hb4⟩
set_option maxHeartbeats 800000 in
theorem parse_np_zero (s : ByteArray) (w : World) (HB : Hid ((⟨(bodyL s.data.toList).toArray⟩ : ByteArray).size ≤ maxLen ∧ (⟨(befL (bodyL s.data.toList)).toArray⟩ : ByteArray).size ≤ maxLen ∧ (⟨(aftL (bodyL s.data.toList)).toArray⟩ : ByteArray).size ≤ maxLen)) (h1 : wholeB (befL (bodyL s.data.toList)) = true) (h2 : hasB (bodyL s.data.toList) = false) (h4 : negB s.data.toList = true) (h5 : (numL (befL (bodyL s.data.toList)) * 1000 + numL (padL (aftL (bodyL s.data.toList)))) = 0) :
    Calls Tryz.prog 130 #[.string s] w fun e w' => e = .returned (.tuple #[.int .i64 0, .int .i64 4]) ∧ After w w' := by
  have a1 := areB_parts (whole_are h1)
  have a2 := aft_dig (l := bodyL s.data.toList) (by exact Or.inl h2)
  obtain ⟨n1, n2⟩ := num_bd a1.2.2 a1.2.1
  obtain ⟨n3, n4⟩ := num_bd3 (pad_dig a2.2) (pad_len a2.1)
  have HW : Hid ((⟨(befL (bodyL s.data.toList)).toArray⟩ : ByteArray).size ≤ 7 ∧ digB (befL (bodyL s.data.toList)) = true) := ⟨a1.2.1, a1.2.2⟩
  have HA : Hid ((⟨(aftL (bodyL s.data.toList)).toArray⟩ : ByteArray).size ≤ 3 ∧ digB (aftL (bodyL s.data.toList)) = true) := a2
  clear a1 a2
  go_enter Tryz.func130, Tryz.ntmps130
  go_wp2_with fail
  refine (cutPrefix_any s _).mono ?_
  rintro e w' ⟨rfl, rfl⟩
  go_wp2_with fail
  refine (cut_any ⟨(bodyL s.data.toList).toArray⟩ _ HB.out.1).mono ?_
  rintro e w' ⟨rfl, n, rfl⟩
  go_wp2_with fail
  refine (isWhole_any ⟨(befL (bodyL s.data.toList)).toArray⟩ _ HB.out.2.1).mono ?_
  rintro e w1 ⟨rfl, hb1⟩
  go_wp2_with fail
  refine (number_any ⟨(befL (bodyL s.data.toList)).toArray⟩ _ HW.out.1 HW.out.2).mono ?_
  rintro e w3 ⟨rfl, hb3⟩
  go_wp2_with fail
  refine (thousandths_any ⟨(aftL (bodyL s.data.toList)).toArray⟩ _ HA.out.1 HA.out.2).mono ?_
  rintro e w4 ⟨rfl, hb4⟩
  go_wp2
  go_ret2
  exact ⟨rfl, After.trans (After.trans (after_draws _ n hb1) hb3) hb4⟩
set_option maxHeartbeats 800000 in
theorem parse_np_bign (s : ByteArray) (w : World) (HB : Hid ((⟨(bodyL s.data.toList).toArray⟩ : ByteArray).size ≤ maxLen ∧ (⟨(befL (bodyL s.data.toList)).toArray⟩ : ByteArray).size ≤ maxLen ∧ (⟨(aftL (bodyL s.data.toList)).toArray⟩ : ByteArray).size ≤ maxLen)) (h1 : wholeB (befL (bodyL s.data.toList)) = true) (h2 : hasB (bodyL s.data.toList) = false) (h4 : negB s.data.toList = true) (h6 : 2147483647 < (numL (befL (bodyL s.data.toList)) * 1000 + numL (padL (aftL (bodyL s.data.toList))))) :
    Calls Tryz.prog 130 #[.string s] w fun e w' => e = .returned (.tuple #[.int .i64 0, .int .i64 9]) ∧ After w w' := by
  have a1 := areB_parts (whole_are h1)
  have a2 := aft_dig (l := bodyL s.data.toList) (by exact Or.inl h2)
  obtain ⟨n1, n2⟩ := num_bd a1.2.2 a1.2.1
  obtain ⟨n3, n4⟩ := num_bd3 (pad_dig a2.2) (pad_len a2.1)
  have HW : Hid ((⟨(befL (bodyL s.data.toList)).toArray⟩ : ByteArray).size ≤ 7 ∧ digB (befL (bodyL s.data.toList)) = true) := ⟨a1.2.1, a1.2.2⟩
  have HA : Hid ((⟨(aftL (bodyL s.data.toList)).toArray⟩ : ByteArray).size ≤ 3 ∧ digB (aftL (bodyL s.data.toList)) = true) := a2
  clear a1 a2
  go_enter Tryz.func130, Tryz.ntmps130
  go_wp2_with fail
  refine (cutPrefix_any s _).mono ?_
  rintro e w' ⟨rfl, rfl⟩
  go_wp2_with fail
  refine (cut_any ⟨(bodyL s.data.toList).toArray⟩ _ HB.out.1).mono ?_
  rintro e w' ⟨rfl, n, rfl⟩
  go_wp2_with fail
  refine (isWhole_any ⟨(befL (bodyL s.data.toList)).toArray⟩ _ HB.out.2.1).mono ?_
  rintro e w1 ⟨rfl, hb1⟩
  go_wp2_with fail
  refine (number_any ⟨(befL (bodyL s.data.toList)).toArray⟩ _ HW.out.1 HW.out.2).mono ?_
  rintro e w3 ⟨rfl, hb3⟩
  go_wp2_with fail
  refine (thousandths_any ⟨(aftL (bodyL s.data.toList)).toArray⟩ _ HA.out.1 HA.out.2).mono ?_
  rintro e w4 ⟨rfl, hb4⟩
  go_wp2
  go_ret2
  exact ⟨rfl, After.trans (After.trans (after_draws _ n hb1) hb3) hb4⟩
set_option maxHeartbeats 800000 in
theorem parse_np_bigp (s : ByteArray) (w : World) (HB : Hid ((⟨(bodyL s.data.toList).toArray⟩ : ByteArray).size ≤ maxLen ∧ (⟨(befL (bodyL s.data.toList)).toArray⟩ : ByteArray).size ≤ maxLen ∧ (⟨(aftL (bodyL s.data.toList)).toArray⟩ : ByteArray).size ≤ maxLen)) (h1 : wholeB (befL (bodyL s.data.toList)) = true) (h2 : hasB (bodyL s.data.toList) = false) (h4 : negB s.data.toList = false) (h6 : 2147483647 < (numL (befL (bodyL s.data.toList)) * 1000 + numL (padL (aftL (bodyL s.data.toList))))) :
    Calls Tryz.prog 130 #[.string s] w fun e w' => e = .returned (.tuple #[.int .i64 0, .int .i64 9]) ∧ After w w' := by
  have a1 := areB_parts (whole_are h1)
  have a2 := aft_dig (l := bodyL s.data.toList) (by exact Or.inl h2)
  obtain ⟨n1, n2⟩ := num_bd a1.2.2 a1.2.1
  obtain ⟨n3, n4⟩ := num_bd3 (pad_dig a2.2) (pad_len a2.1)
  have HW : Hid ((⟨(befL (bodyL s.data.toList)).toArray⟩ : ByteArray).size ≤ 7 ∧ digB (befL (bodyL s.data.toList)) = true) := ⟨a1.2.1, a1.2.2⟩
  have HA : Hid ((⟨(aftL (bodyL s.data.toList)).toArray⟩ : ByteArray).size ≤ 3 ∧ digB (aftL (bodyL s.data.toList)) = true) := a2
  clear a1 a2
  go_enter Tryz.func130, Tryz.ntmps130
  go_wp2_with fail
  refine (cutPrefix_any s _).mono ?_
  rintro e w' ⟨rfl, rfl⟩
  go_wp2_with fail
  refine (cut_any ⟨(bodyL s.data.toList).toArray⟩ _ HB.out.1).mono ?_
  rintro e w' ⟨rfl, n, rfl⟩
  go_wp2_with fail
  refine (isWhole_any ⟨(befL (bodyL s.data.toList)).toArray⟩ _ HB.out.2.1).mono ?_
  rintro e w1 ⟨rfl, hb1⟩
  go_wp2_with fail
  refine (number_any ⟨(befL (bodyL s.data.toList)).toArray⟩ _ HW.out.1 HW.out.2).mono ?_
  rintro e w3 ⟨rfl, hb3⟩
  go_wp2_with fail
  refine (thousandths_any ⟨(aftL (bodyL s.data.toList)).toArray⟩ _ HA.out.1 HA.out.2).mono ?_
  rintro e w4 ⟨rfl, hb4⟩
  go_wp2
  go_ret2
  exact ⟨rfl, After.trans (After.trans (after_draws _ n hb1) hb3) hb4⟩
set_option maxHeartbeats 800000 in
theorem parse_np_neg (s : ByteArray) (w : World) (HB : Hid ((⟨(bodyL s.data.toList).toArray⟩ : ByteArray).size ≤ maxLen ∧ (⟨(befL (bodyL s.data.toList)).toArray⟩ : ByteArray).size ≤ maxLen ∧ (⟨(aftL (bodyL s.data.toList)).toArray⟩ : ByteArray).size ≤ maxLen)) (h1 : wholeB (befL (bodyL s.data.toList)) = true) (h2 : hasB (bodyL s.data.toList) = false) (h4 : negB s.data.toList = true) (h5 : 0 < (numL (befL (bodyL s.data.toList)) * 1000 + numL (padL (aftL (bodyL s.data.toList))))) (h6 : (numL (befL (bodyL s.data.toList)) * 1000 + numL (padL (aftL (bodyL s.data.toList)))) ≤ 2147483647) :
    Calls Tryz.prog 130 #[.string s] w fun e w' => e = .returned (.tuple #[.int .i64 (- (numL (befL (bodyL s.data.toList)) * 1000 + numL (padL (aftL (bodyL s.data.toList))))), .int .i64 0]) ∧ After w w' := by
  have a1 := areB_parts (whole_are h1)
  have a2 := aft_dig (l := bodyL s.data.toList) (by exact Or.inl h2)
  obtain ⟨n1, n2⟩ := num_bd a1.2.2 a1.2.1
  obtain ⟨n3, n4⟩ := num_bd3 (pad_dig a2.2) (pad_len a2.1)
  have HW : Hid ((⟨(befL (bodyL s.data.toList)).toArray⟩ : ByteArray).size ≤ 7 ∧ digB (befL (bodyL s.data.toList)) = true) := ⟨a1.2.1, a1.2.2⟩
  have HA : Hid ((⟨(aftL (bodyL s.data.toList)).toArray⟩ : ByteArray).size ≤ 3 ∧ digB (aftL (bodyL s.data.toList)) = true) := a2
  clear a1 a2
  go_enter Tryz.func130, Tryz.ntmps130
  go_wp2_with fail
  refine (cutPrefix_any s _).mono ?_
  rintro e w' ⟨rfl, rfl⟩
  go_wp2_with fail
  refine (cut_any ⟨(bodyL s.data.toList).toArray⟩ _ HB.out.1).mono ?_
  rintro e w' ⟨rfl, n, rfl⟩
  go_wp2_with fail
  refine (isWhole_any ⟨(befL (bodyL s.data.toList)).toArray⟩ _ HB.out.2.1).mono ?_
  rintro e w1 ⟨rfl, hb1⟩
  go_wp2_with fail
  refine (number_any ⟨(befL (bodyL s.data.toList)).toArray⟩ _ HW.out.1 HW.out.2).mono ?_
  rintro e w3 ⟨rfl, hb3⟩
  go_wp2_with fail
  refine (thousandths_any ⟨(aftL (bodyL s.data.toList)).toArray⟩ _ HA.out.1 HA.out.2).mono ?_
  rintro e w4 ⟨rfl, hb4⟩
  go_wp2
  go_ret2
  exact ⟨rfl, After.trans (After.trans (after_draws _ n hb1) hb3) hb4⟩
set_option maxHeartbeats 800000 in
theorem parse_np_pos (s : ByteArray) (w : World) (HB : Hid ((⟨(bodyL s.data.toList).toArray⟩ : ByteArray).size ≤ maxLen ∧ (⟨(befL (bodyL s.data.toList)).toArray⟩ : ByteArray).size ≤ maxLen ∧ (⟨(aftL (bodyL s.data.toList)).toArray⟩ : ByteArray).size ≤ maxLen)) (h1 : wholeB (befL (bodyL s.data.toList)) = true) (h2 : hasB (bodyL s.data.toList) = false) (h4 : negB s.data.toList = false) (h6 : (numL (befL (bodyL s.data.toList)) * 1000 + numL (padL (aftL (bodyL s.data.toList)))) ≤ 2147483647) :
    Calls Tryz.prog 130 #[.string s] w fun e w' => e = .returned (.tuple #[.int .i64 (numL (befL (bodyL s.data.toList)) * 1000 + numL (padL (aftL (bodyL s.data.toList)))), .int .i64 0]) ∧ After w w' := by
  have a1 := areB_parts (whole_are h1)
  have a2 := aft_dig (l := bodyL s.data.toList) (by exact Or.inl h2)
  obtain ⟨n1, n2⟩ := num_bd a1.2.2 a1.2.1
  obtain ⟨n3, n4⟩ := num_bd3 (pad_dig a2.2) (pad_len a2.1)
  have HW : Hid ((⟨(befL (bodyL s.data.toList)).toArray⟩ : ByteArray).size ≤ 7 ∧ digB (befL (bodyL s.data.toList)) = true) := ⟨a1.2.1, a1.2.2⟩
  have HA : Hid ((⟨(aftL (bodyL s.data.toList)).toArray⟩ : ByteArray).size ≤ 3 ∧ digB (aftL (bodyL s.data.toList)) = true) := a2
  clear a1 a2
  go_enter Tryz.func130, Tryz.ntmps130
  go_wp2_with fail
  refine (cutPrefix_any s _).mono ?_
  rintro e w' ⟨rfl, rfl⟩
  go_wp2_with fail
  refine (cut_any ⟨(bodyL s.data.toList).toArray⟩ _ HB.out.1).mono ?_
  rintro e w' ⟨rfl, n, rfl⟩
  go_wp2_with fail
  refine (isWhole_any ⟨(befL (bodyL s.data.toList)).toArray⟩ _ HB.out.2.1).mono ?_
  rintro e w1 ⟨rfl, hb1⟩
  go_wp2_with fail
  refine (number_any ⟨(befL (bodyL s.data.toList)).toArray⟩ _ HW.out.1 HW.out.2).mono ?_
  rintro e w3 ⟨rfl, hb3⟩
  go_wp2_with fail
  refine (thousandths_any ⟨(aftL (bodyL s.data.toList)).toArray⟩ _ HA.out.1 HA.out.2).mono ?_
  rintro e w4 ⟨rfl, hb4⟩
  go_wp2
  go_ret2
  exact ⟨rfl, After.trans (After.trans (after_draws _ n hb1) hb3) hb4⟩

/-- fixed.Parse: what a text says, or why it says nothing. -/
theorem parse_any (s : ByteArray) (w : World) (hs : s.size ≤ maxLen) :
    Calls Tryz.prog 130 #[.string s] w fun e w' => e = .returned (.tuple #[.int .i64 (parseV s.data.toList), .int .i64 (parseE s.data.toList)]) ∧ After w w' := by
  have hl : s.data.toList.length = s.size := Array.length_toList
  have l1 := body_le s.data.toList
  have l2 := bef_le (bodyL s.data.toList)
  have l3 := aft_le (bodyL s.data.toList)
  have HB : Hid ((⟨(bodyL s.data.toList).toArray⟩ : ByteArray).size ≤ maxLen ∧ (⟨(befL (bodyL s.data.toList)).toArray⟩ : ByteArray).size ≤ maxLen ∧ (⟨(aftL (bodyL s.data.toList)).toArray⟩ : ByteArray).size ≤ maxLen) :=
    ⟨by show (bodyL s.data.toList).length ≤ _; omega, by show (befL (bodyL s.data.toList)).length ≤ _; omega, by show (aftL (bodyL s.data.toList)).length ≤ _; omega⟩
  have hv : valL s.data.toList = numL (befL (bodyL s.data.toList)) * 1000 + numL (padL (aftL (bodyL s.data.toList))) := rfl
  have tail : ∀ (h1 : wholeB (befL (bodyL s.data.toList)) = true) (h2 : hasB (bodyL s.data.toList) = false ∨ partB (aftL (bodyL s.data.toList)) = true), 0 ≤ valL s.data.toList ∧ formB s.data.toList = true := by
    intro h1 h2
    have a1 := areB_parts (whole_are h1)
    have a2 := aft_dig h2
    have n1 := num_bd a1.2.2 a1.2.1
    have n3 := num_bd3 (pad_dig a2.2) (pad_len a2.1)
    refine ⟨by omega, ?_⟩
    unfold formB
    rw [h1]
    rcases h2 with h2 | h2 <;> simp [h2]
  cases h1 : wholeB (befL (bodyL s.data.toList))
  · have f : formB s.data.toList = false := by unfold formB; rw [h1]; rfl
    rw [(parse_form f).1, (parse_form f).2]
    exact parse_nowhole s w HB h1
  · cases h2 : hasB (bodyL s.data.toList)
    · obtain ⟨v0, f⟩ := tail h1 (Or.inl h2)
      cases h4 : negB s.data.toList
      · by_cases h6 : 2147483647 < valL s.data.toList
        · rw [(parse_bigp f h4 h6).1, (parse_bigp f h4 h6).2]; exact parse_np_bigp s w HB h1 h2 h4 (by rw [← hv]; exact h6)
        · rw [(parse_pos f h4 h6).1, (parse_pos f h4 h6).2, hv]; exact parse_np_pos s w HB h1 h2 h4 (by rw [← hv]; omega)
      · by_cases h5 : valL s.data.toList = 0
        · rw [(parse_zero f h4 h5).1, (parse_zero f h4 h5).2]; exact parse_np_zero s w HB h1 h2 h4 (by rw [← hv]; exact h5)
        · by_cases h6 : 2147483647 < valL s.data.toList
          · rw [(parse_bign f h4 h6).1, (parse_bign f h4 h6).2]; exact parse_np_bign s w HB h1 h2 h4 (by rw [← hv]; exact h6)
          · rw [(parse_neg f h4 h5 h6).1, (parse_neg f h4 h5 h6).2, hv]; exact parse_np_neg s w HB h1 h2 h4 (by rw [← hv]; omega) (by rw [← hv]; omega)
    · cases h3 : partB (aftL (bodyL s.data.toList))
      · have f : formB s.data.toList = false := by unfold formB; rw [h1, h2, h3]; rfl
        rw [(parse_form f).1, (parse_form f).2]
        exact parse_nopart s w HB h1 h2 h3
      · obtain ⟨v0, f⟩ := tail h1 (Or.inr h3)
        cases h4 : negB s.data.toList
        · by_cases h6 : 2147483647 < valL s.data.toList
          · rw [(parse_bigp f h4 h6).1, (parse_bigp f h4 h6).2]; exact parse_pt_bigp s w HB h1 h2 h3 h4 (by rw [← hv]; exact h6)
          · rw [(parse_pos f h4 h6).1, (parse_pos f h4 h6).2, hv]; exact parse_pt_pos s w HB h1 h2 h3 h4 (by rw [← hv]; omega)
        · by_cases h5 : valL s.data.toList = 0
          · rw [(parse_zero f h4 h5).1, (parse_zero f h4 h5).2]; exact parse_pt_zero s w HB h1 h2 h3 h4 (by rw [← hv]; exact h5)
          · by_cases h6 : 2147483647 < valL s.data.toList
            · rw [(parse_bign f h4 h6).1, (parse_bign f h4 h6).2]; exact parse_pt_bign s w HB h1 h2 h3 h4 (by rw [← hv]; exact h6)
            · rw [(parse_neg f h4 h5 h6).1, (parse_neg f h4 h5 h6).2, hv]; exact parse_pt_neg s w HB h1 h2 h3 h4 (by rw [← hv]; omega) (by rw [← hv]; omega)
end Go.Proofs.YtlfcihanhfabmaaGreatDoor.L1
