/-
  The contracts of the document's answers on texts: digits, Text, number, Parse.
-/
import Derived.Test.YtlfcihanhfabmaaGreatDoorX1Text
namespace Go.Proofs.YtlfcihanhfabmaaGreatDoor.L1
open Go.RowKit
set_option maxRecDepth 8000

/-- A number of digits, -1 where one of them is none. -/
def refD (l : List UInt8) : Int := if digB l = true then numL l else -1
/-- ref.number: a number of digits, -1 where they are none. -/
def refNum (l : List UInt8) (m : Nat) : Int := if areB l m = true then numL l else -1
theorem bt_at (s : ByteArray) (k : Nat) (h : k < s.size) : ((s[k]'h).toNat : Int) = bt s.data.toList k := by
  have h' : k < s.data.size := h
  unfold bt
  rw [List.getD_eq_getElem?_getD, List.getElem?_eq_getElem (by simpa using h')]
  simp
  rfl
set_option maxHeartbeats 400000 in
theorem refNumber_no (s : ByteArray) (m : Nat) (w : World) (h : s.size < 1 ∨ m < s.size) (hs : s.size ≤ maxLen) (_hm : m ≤ 7) :
    Calls Tryz.prog 131 #[.string s, .int .i64 1, .int .i64 m] w fun e w' => e = .returned (.int .i64 (-1)) ∧ w' = w := by
  unfold maxLen at hs
  by_cases h0 : s.size < 1
  · go_enter Tryz.func131, Tryz.ntmps131
    go_wp2
    go_ret
    exact ⟨rfl, rfl⟩
  · have h1 : m < s.size := by omega
    go_enter Tryz.func131, Tryz.ntmps131
    go_wp2
    go_ret
    exact ⟨rfl, rfl⟩
set_option maxHeartbeats 400000 in
theorem refNumber_yes (s : ByteArray) (m : Nat) (w : World) (h0 : 1 ≤ s.size) (h1 : s.size ≤ 7) (h2 : s.size ≤ m) (hm : m ≤ 7) :
    Calls Tryz.prog 131 #[.string s, .int .i64 1, .int .i64 m] w fun e w' => e = .returned (.int .i64 (refD s.data.toList)) ∧ w' = w := by
  have HL : Hid (s.data.toList.length = s.size) := Array.length_toList
  go_enter Tryz.func131, Tryz.ntmps131
  go_wp2
  go_loop [7, 8] (fun v i => ∃ k : Nat, k ≤ s.size ∧ i = .int .i64 k ∧ v = .int .i64 (numL (s.data.toList.take k)) ∧ (0 ≤ numL (s.data.toList.take k) ∧ numL (s.data.toList.take k) < 10 ^ k) ∧ ∀ j, j < k → 48 ≤ bt s.data.toList j ∧ bt s.data.toList j ≤ 57) (fun _ i => s.size - (intOf i).toNat)
  case atStart => exact ⟨0, Nat.zero_le _, rfl, rfl, ⟨by simp [numL], by simp [numL]⟩, fun j hj => by omega⟩
  case round =>
    obtain ⟨k, hk, rfl, rfl, hbd, hall⟩ := hrel
    have HA := hideIt hall
    have HBD := hideIt hbd
    have n1 := hbd.1
    have n2 : numL (s.data.toList.take k) < 10000000 := by
      have e : (10 : Int) ^ k ≤ 10000000 := by
        match k, (show k ≤ 7 by omega) with
        | 0, _ => decide
        | 1, _ => decide
        | 2, _ => decide
        | 3, _ => decide
        | 4, _ => decide
        | 5, _ => decide
        | 6, _ => decide
        | 7, _ => decide
      have := hbd.2
      omega
    clear hall hbd
    have b1 := bt_lo s.data.toList k
    have b2 := bt_hi s.data.toList k
    by_cases hlt : k < s.size
    · have hc := bt_at s k hlt
      have HS : Hid (numL (s.data.toList.take (k + 1)) = 10 * numL (s.data.toList.take k) + (bt s.data.toList k - 48)) := numL_take _ k (by rw [HL.out]; exact hlt)
      by_cases d1 : bt s.data.toList k < 48
      · have HF : Hid (digB s.data.toList = false) := digB_not _ k (by rw [HL.out]; exact hlt) (by omega)
        go_wp2
        go_ret
        exact ⟨ret_int (by unfold refD; rw [HF.out]; rfl), rfl⟩
      · by_cases d2 : 57 < bt s.data.toList k
        · have HF : Hid (digB s.data.toList = false) := digB_not _ k (by rw [HL.out]; exact hlt) (by omega)
          go_wp2
          go_ret
          exact ⟨ret_int (by unfold refD; rw [HF.out]; rfl), rfl⟩
        · go_wp2
          go_round
          case rel => exact ⟨k + 1, by omega, by go_num, by rw [HS.out]; go_num, by
            rw [HS.out, Int.pow_succ]
            have := HBD.out.2
            omega, fun j hj => by
            by_cases e : j = k
            · subst e; omega
            · exact HA.out j (by omega)⟩
          case measure => simp [intOf]; omega
    · have HF : Hid (digB s.data.toList = true) := digB_of _ (fun j hj => HA.out j (by rw [HL.out] at hj; omega))
      go_wp2
      go_ret
      exact ⟨ret_int (by unfold refD; rw [HF.out, if_pos rfl, List.take_of_length_le (by rw [HL.out]; omega)]), rfl⟩
theorem refNumber_any (s : ByteArray) (m : Nat) (w : World) (hs : s.size ≤ maxLen) (hm : m ≤ 7) :
    Calls Tryz.prog 131 #[.string s, .int .i64 1, .int .i64 m] w fun e w' => e = .returned (.int .i64 (refNum s.data.toList m)) ∧ w' = w := by
  have hl : s.data.toList.length = s.size := Array.length_toList
  unfold refNum areB
  rw [hl]
  by_cases h : s.size < 1 ∨ m < s.size
  · have e : (decide (1 ≤ s.size) && decide (s.size ≤ m)) = false := by
      rcases h with h | h
      · rw [decide_eq_false (by omega)]; rfl
      · rw [decide_eq_false (show ¬ s.size ≤ m by omega), Bool.and_false]
    rw [e, Bool.false_and]
    exact refNumber_no s m w h hs hm
  · rw [decide_eq_true (show 1 ≤ s.size by omega), decide_eq_true (show s.size ≤ m by omega)]
    exact refNumber_yes s m w (by omega) (by omega) (by omega) hm
end Go.Proofs.YtlfcihanhfabmaaGreatDoor.L1
