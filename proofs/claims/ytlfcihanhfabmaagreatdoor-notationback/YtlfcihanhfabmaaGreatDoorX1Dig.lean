/-
  The contracts of areDigits, isWhole, isPart and number of package fixed.
-/
import Derived.Test.YtlfcihanhfabmaaGreatDoorX1Num
import Derived.Test.YtlfcihanhfabmaaGreatDoorX1Pure3
import Derived.Laws.IdiomStrings
import Derived.WalkKit
import Derived.WalkSpells
import Derived.WalkLawsBesides
namespace Go.Proofs.YtlfcihanhfabmaaGreatDoor.L1
open Go.RowKit
set_option maxRecDepth 8000

theorem hideIt {p : Prop} (h : p) : Hid p := h
/-- Nothing that lay there has turned: new blocks and draws alone. -/
def After (w w' : World) : Prop := Below w.heap.size w w'
theorem After.rfl {w : World} : After w w := Below.refl _ _
theorem After.trans {a b c : World} (h : After a b) (k : After b c) : After a c := Below.trans h (Below.mono k (Below.size h))
theorem After.draws {a b : World} (h : After a b) (n : Nat) : After a (b.drewN n) := Below.trans h ⟨_root_.rfl, _root_.rfl, _root_.rfl, Nat.le_refl _, fun _ _ => _root_.rfl⟩
theorem After.of {a b : World} (h : Below a.heap.size a b) : After a b := h

/-- '[]byte(s)': a new block that holds the bytes. -/
theorem conv_bytes (s : ByteArray) (w : World) : ∃ (cap : Nat) (C : Array Value), (convert 9 44 (.string s)).run Tryz.prog w = .ok (.slice (some ⟨w.heap.size, 0, none⟩) s.size cap) (w.drew.alloc (.cells C 5 (C.size, C.size + 1))) ∧
    ∀ j, j < s.size → (w.alloc (.cells C 5 (C.size, C.size + 1))).cell? ⟨w.heap.size, j, none⟩ = some (.int .u8 (bt s.data.toList j)) := by
  refine ⟨_, _, run_bytes_of_string w 9 44 5 s Tryz.underlying9 Tryz.underlying44 Tryz.underlying5, ?_⟩
  intro j hj
  have hj' : j < s.data.size := hj
  rw [World.cell?_alloc_mark, bytesRow_at s _ j hj']
  unfold bt
  rw [List.getD_eq_getElem?_getD, List.getElem?_eq_getElem (by simpa using hj')]
  simp

set_option maxHeartbeats 400000 in
theorem areDigits_no (s : ByteArray) (m : Int) (w : World) (h : s.size < 1 ∨ m < (s.size : Int)) (hs : s.size ≤ maxLen) :
    Calls Tryz.prog 148 #[.string s, .int .i64 m] w fun e w' => e = .returned (.bool false) ∧ w' = w := by
  unfold maxLen at hs
  by_cases h0 : s.size < 1
  · go_enter Tryz.func148, Tryz.ntmps148
    go_wp2
    go_ret
    exact ⟨rfl, rfl⟩
  · have h1 : m < (s.size : Int) := by omega
    go_enter Tryz.func148, Tryz.ntmps148
    go_wp2
    go_ret
    exact ⟨rfl, rfl⟩

set_option maxHeartbeats 400000 in
theorem areDigits_yes (s : ByteArray) (m : Int) (w : World) (h0 : 1 ≤ s.size) (h1 : s.size ≤ 7) (h2 : (s.size : Int) ≤ m) :
    Calls Tryz.prog 148 #[.string s, .int .i64 m] w fun e w' => e = .returned (.bool (digB s.data.toList)) ∧ Below w.heap.size w w' := by
  obtain ⟨cap, C, hcv, hcell⟩ := conv_bytes s w
  have hlen : s.data.toList.length = s.size := Array.length_toList
  have HL : Hid (s.data.toList.length = s.size) := hlen
  clear hlen
  go_enter Tryz.func148, Tryz.ntmps148
  go_wp2
  go_loop [19] (fun i => ∃ k : Nat, k ≤ s.size ∧ i = .int .i64 k ∧ ∀ j, j < k → 48 ≤ bt s.data.toList j ∧ bt s.data.toList j ≤ 57) (fun i => s.size - (intOf i).toNat)
  case atStart => exact ⟨0, Nat.zero_le _, rfl, fun j hj => by omega⟩
  case round =>
    obtain ⟨k, hk, rfl, hall⟩ := hrel
    have HA := hideIt hall
    clear hall
    have b1 := bt_lo s.data.toList k
    have b2 := bt_hi s.data.toList k
    by_cases hlt : k < s.size
    · have hc := hcell k hlt
      clear hcell
      by_cases d1 : bt s.data.toList k < 48
      · go_wp2
        go_ret
        exact ⟨by rw [digB_not _ k (by rw [HL.out]; exact hlt) (by omega)]; rfl, ((Below.refl _ _).alloc (Nat.le_refl _) _).drew⟩
      · by_cases d2 : 57 < bt s.data.toList k
        · go_wp2
          go_ret
          exact ⟨by rw [digB_not _ k (by rw [HL.out]; exact hlt) (by omega)]; rfl, ((Below.refl _ _).alloc (Nat.le_refl _) _).drew⟩
        · go_wp2
          go_round
          case rel => exact ⟨k + 1, by omega, by go_num, fun j hj => by
            by_cases e : j = k
            · subst e; omega
            · exact HA.out j (by omega)⟩
          case measure => simp [intOf]; omega
    · go_wp2
      go_ret
      exact ⟨by rw [digB_of _ (fun j hj => HA.out j (by rw [HL.out] at hj; omega))]; rfl, ((Below.refl _ _).alloc (Nat.le_refl _) _).drew⟩

theorem areDigits_any (s : ByteArray) (m : Nat) (hm : m ≤ 7) (w : World) (hs : s.size ≤ maxLen) :
    Calls Tryz.prog 148 #[.string s, .int .i64 m] w fun e w' => e = .returned (.bool (areB s.data.toList m)) ∧ Below w.heap.size w w' := by
  have hl : s.data.toList.length = s.size := Array.length_toList
  unfold areB
  rw [hl]
  by_cases h : s.size < 1 ∨ m < s.size
  · refine (areDigits_no s m w (by omega) hs).mono ?_
    rintro e w' ⟨rfl, rfl⟩
    refine ⟨?_, Below.refl _ _⟩
    have : (decide (1 ≤ s.size) && decide (s.size ≤ m)) = false := by
      rcases h with h | h
      · rw [decide_eq_false (by omega)]; rfl
      · rw [decide_eq_false (show ¬ s.size ≤ m by omega), Bool.and_false]
    rw [this, Bool.false_and]
  · refine (areDigits_yes s m w (by omega) (by omega) (by omega)).mono ?_
    rintro e w' ⟨rfl, hb⟩
    refine ⟨?_, hb⟩
    rw [decide_eq_true (show 1 ≤ s.size by omega), decide_eq_true (show s.size ≤ m by omega)]
    rfl

set_option maxHeartbeats 400000 in
theorem isPart_any (s : ByteArray) (w : World) (hs : s.size ≤ maxLen) :
    Calls Tryz.prog 140 #[.string s] w fun e w' => e = .returned (.bool (partB s.data.toList)) ∧ Below w.heap.size w w' := by
  go_enter Tryz.func140, Tryz.ntmps140
  go_wp2_with (go_at_call 148; refine (areDigits_any _ 3 (by decide) _ hs).mono ?_; rintro e w' ⟨rfl, hb⟩)
  go_ret
  exact ⟨rfl, hb⟩
theorem bt_zero (s : ByteArray) (h : 0 < s.size) : ((s[0]'h).toNat : Int) = bt s.data.toList 0 := by
  have h' : 0 < s.data.size := h
  unfold bt
  rw [List.getD_eq_getElem?_getD, List.getElem?_eq_getElem (by simpa using h')]
  simp
  rfl
set_option maxHeartbeats 400000 in
theorem isWhole_any (s : ByteArray) (w : World) (hs : s.size ≤ maxLen) :
    Calls Tryz.prog 139 #[.string s] w fun e w' => e = .returned (.bool (wholeB s.data.toList)) ∧ Below w.heap.size w w' := by
  have hl : s.data.toList.length = s.size := Array.length_toList
  have H : Hid (s.size ≤ maxLen) := hs
  unfold maxLen at hs
  unfold wholeB
  rw [hl]
  clear hl
  by_cases h1 : 1 < s.size
  · have hz := bt_zero s (by omega)
    by_cases h2 : bt s.data.toList 0 = 48
    · rw [if_pos ⟨h1, h2⟩]
      rw [h2] at hz
      clear h2
      go_enter Tryz.func139, Tryz.ntmps139
      go_wp2
      go_ret
      exact ⟨rfl, Below.refl _ _⟩
    · rw [if_neg (by omega)]
      have h3 : (bt s.data.toList 0 == 48) = false := by simpa using h2
      go_enter Tryz.func139, Tryz.ntmps139
      go_wp2_with (go_at_call 148; refine (areDigits_any _ 7 (by decide) _ H).mono ?_; rintro e w' ⟨rfl, hb⟩)
      go_ret
      exact ⟨rfl, hb⟩
  · rw [if_neg (by omega)]
    go_enter Tryz.func139, Tryz.ntmps139
    go_wp2_with (go_at_call 148; refine (areDigits_any _ 7 (by decide) _ H).mono ?_; rintro e w' ⟨rfl, hb⟩)
    go_ret
    exact ⟨rfl, hb⟩

set_option maxHeartbeats 400000 in
theorem number_any (s : ByteArray) (w : World) (h1 : s.size ≤ 7) (hd : digB s.data.toList = true) :
    Calls Tryz.prog 141 #[.string s] w fun e w' => e = .returned (.int .i64 (numL s.data.toList)) ∧ Below w.heap.size w w' := by
  obtain ⟨cap, C, hcv, hcell⟩ := conv_bytes s w
  have HL : Hid (s.data.toList.length = s.size) := Array.length_toList
  have HB : Hid (∀ k, k ≤ s.size → 0 ≤ numL (s.data.toList.take k) ∧ numL (s.data.toList.take k) < 10000000) := fun k hk => numL_bd7 _ hd (by rw [HL.out]; exact h1) k (by rw [HL.out]; exact hk)
  have HD : Hid (∀ j, j < s.size → 48 ≤ bt s.data.toList j ∧ bt s.data.toList j ≤ 57) := fun j hj => (digB_iff _).1 hd j (by rw [HL.out]; exact hj)
  clear hd
  go_enter Tryz.func141, Tryz.ntmps141
  go_wp2
  go_loop [3, 9] (fun v i => ∃ k : Nat, k ≤ s.size ∧ i = .int .i64 k ∧ v = .int .i64 (numL (s.data.toList.take k))) (fun _ i => s.size - (intOf i).toNat)
  case atStart => exact ⟨0, Nat.zero_le _, rfl, rfl⟩
  case round =>
    obtain ⟨k, hk, rfl, rfl⟩ := hrel
    obtain ⟨n1, n2⟩ := HB.out k hk
    by_cases hlt : k < s.size
    · have hc := hcell k hlt
      obtain ⟨b1, b2⟩ := HD.out k hlt
      have HS : Hid (numL (s.data.toList.take (k + 1)) = 10 * numL (s.data.toList.take k) + (bt s.data.toList k - 48)) := numL_take _ k (by rw [HL.out]; exact hlt)
      clear hcell
      go_wp2
      go_round
      case rel => exact ⟨k + 1, by omega, by go_num, by rw [HS.out]⟩
      case measure => simp [intOf]; omega
    · go_wp2
      go_ret
      exact ⟨ret_int (by rw [List.take_of_length_le (by rw [HL.out]; omega)]), ((Below.refl _ _).alloc (Nat.le_refl _) _).drew⟩
end Go.Proofs.YtlfcihanhfabmaaGreatDoor.L1
