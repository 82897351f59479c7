/-
  The document's texts: level, in, digits, words.
-/
import Derived.Test.YtlfcihanhfabmaaGreatDoorNtV
import Derived.Test.YtlfcihanhfabmaaGreatDoorNtE
import Derived.Test.YtlfcihanhfabmaaGreatDoorX1RefText
namespace Go.Proofs.YtlfcihanhfabmaaGreatDoor
open Go.RowKit
set_option maxRecDepth 8000
open L1 (S)
/-- How tight an operation binds. -/
def rl (op : Int) : Nat := if op = 8 then 0 else if op = 7 then 1 else if op = 12 then 2 else if op = 6 ∨ op = 9 ∨ op = 10 ∨ op = 11 then 3 else 4
theorem rl_lvl (op : Int) {m : Nat} (h1 : 1 ≤ m) (h3 : m ≤ 3) : rl op ≤ m - 1 ↔ lvl op < m := by
  unfold rl lvl
  by_cases h8 : op = 8
  · rw [if_pos h8, if_pos h8]; omega
  rw [if_neg h8, if_neg h8]
  by_cases h7 : op = 7
  · rw [if_pos h7, if_pos h7]; omega
  rw [if_neg h7, if_neg h7]
  by_cases h12 : op = 12
  · rw [if_pos h12, if_pos h12]; omega
  rw [if_neg h12, if_neg h12]
  split <;> omega
theorem level_any (op : Int) (w : World) : Calls Tryz.prog 45 #[.int .i64 op] w fun e w' => e = .returned (.int .i64 (rl op : Int)) ∧ w' = w := by
  rcases (by omega : op = 8 ∨ op = 7 ∨ op = 12 ∨ op = 6 ∨ op = 9 ∨ op = 10 ∨ op = 11 ∨ (¬ op = 8 ∧ ¬ op = 7 ∧ ¬ op = 12 ∧ ¬ op = 6 ∧ ¬ op = 9 ∧ ¬ op = 10 ∧ ¬ op = 11)) with rfl | rfl | rfl | rfl | rfl | rfl | rfl | ⟨h1, h2, h3, h4, h5, h6, h7⟩
  all_goals
    try rw [show rl op = 4 from by unfold rl; simp [*]]
    go_enter Tryz.func45, Tryz.ntmps45
    go_wp2
    go_ret
    exact ⟨rfl, rfl⟩
theorem in_any (t : W8) (ht : t.length ≤ 1025) (op : Int) (m : Nat) (h1 : 1 ≤ m) (h3 : m ≤ 3) (z : Int) (hz : z = ((m - 1 : Nat) : Int)) (w : World) : Calls Tryz.prog 25 #[.string (S t), .int .i64 op, .int .i64 z] w fun e w' => e = .returned (.string (S (if lvl op < m then 40 :: (t ++ [41]) else t))) ∧ w' = w := by
  have s1 : (S t).size ≤ 1025 := ht
  have e1 : (⟨#[40]⟩ : ByteArray) ++ S t = S (40 :: t) := L1.S_cat [40] t
  have e2 : S (40 :: t) ++ (⟨#[41]⟩ : ByteArray) = S (40 :: (t ++ [41])) := L1.S_cat (40 :: t) [41]
  have s2 : (S (40 :: t)).size ≤ 1026 := by show (40 :: t).length ≤ _; simp; omega
  by_cases h : lvl op < m
  · rw [if_pos h]
    have hr := (rl_lvl op h1 h3).2 h
    have i1 : (rl op : Int) ≤ z := by omega
    clear h1 h3 hz h hr ht
    go_enter Tryz.func25, Tryz.ntmps25
    go_wp2_with (go_at_call 45; refine (level_any _ _).mono ?_; rintro e w1 ⟨rfl, rfl⟩)
    go_ret
    exact ⟨rfl, rfl⟩
  · rw [if_neg h]
    have hr : ¬ rl op ≤ m - 1 := fun h' => h ((rl_lvl op h1 h3).1 h')
    have i1 : ¬ (rl op : Int) ≤ z := by omega
    clear h1 h3 hz h hr ht
    go_enter Tryz.func25, Tryz.ntmps25
    go_wp2_with (go_at_call 45; refine (level_any _ _).mono ?_; rintro e w1 ⟨rfl, rfl⟩)
    go_ret
    exact ⟨rfl, rfl⟩
theorem dgB_of (n : Nat) : L1.dgB (n : Int) = UInt8.ofNat (48 + n) := by
  unfold L1.dgB
  congr 1
theorem conv_two (W : World) (d e : Int) (h0 : 0 ≤ d) (h9 : d ≤ 9) (k0 : 0 ≤ e) (k9 : e ≤ 9) : (convert 44 9 (.slice (some ⟨W.heap.size, 0, none⟩) 2 2)).run Tryz.prog (W.alloc (.cells #[.int .u8 (48 + d), .int .u8 (48 + e)] 5)) = .ok (.string (S [L1.dgB d, L1.dgB e])) (W.alloc (.cells #[.int .u8 (48 + d), .int .u8 (48 + e)] 5)) := by
  refine run_convert_bytes_back _ 44 9 5 ⟨W.heap.size, 0, none⟩ 2 [L1.dgB d, L1.dgB e] Tryz.underlying44 Tryz.underlying5 Tryz.underlying9 ?_
  intro j hj
  have hb := heap_alloc_new W (.cells #[.int .u8 (48 + d), .int .u8 (48 + e)] 5)
  rcases (by simp at hj; omega : j = 0 ∨ j = 1) with rfl | rfl
  · show _ = some (Value.int .u8 ((L1.dgB d).toNat : Int))
    rw [L1.dgB_val d h0 h9]
    exact blk_cell hb rfl
  · show _ = some (Value.int .u8 ((L1.dgB e).toNat : Int))
    rw [L1.dgB_val e k0 k9]
    have : (⟨W.heap.size, 0, none⟩ : Addr).add 1 = ⟨W.heap.size, 1, none⟩ := by simp [Addr.add]
    rw [this]
    exact blk_cell hb rfl
set_option maxHeartbeats 400000 in
theorem digits_any (n : Nat) (h : n < 100) (w : World) : Calls Tryz.prog 26 #[.int .i64 (n : Int)] w fun e w' => e = .returned (.string (S (dig n))) ∧ After w w' := by
  by_cases h10 : n < 10
  · have i1 : (n : Int) < 10 := by omega
    have i2 : (0 : Int) ≤ (n : Int) := by omega
    have hd : dig n = [L1.dgB (n : Int)] := by unfold dig; rw [if_pos h10, dgB_of]
    have hcv := L1.conv_one w (n : Int) (by omega) (by omega)
    rw [hd]
    clear hd h10 h
    go_enter Tryz.func26, Tryz.ntmps26
    go_wp2_with (simp only [hcv])
    go_ret
    exact ⟨rfl, After.rfl.alloc _⟩
  · have i1 : ¬ (n : Int) < 10 := by omega
    have i3 : (n : Int) < 100 := by omega
    have i2 : (0 : Int) ≤ (n : Int) := by omega
    obtain ⟨q, hq⟩ : ∃ q : Nat, q = n / 10 := ⟨_, rfl⟩
    obtain ⟨r, hr⟩ : ∃ r : Nat, r = n % 10 := ⟨_, rfl⟩
    have e1 : (n : Int) / 10 = (q : Int) := by omega
    have e2 : (n : Int) % 10 = (r : Int) := by omega
    have e3 : Int.tdiv (n : Int) 10 = (q : Int) := by rw [Int.tdiv_eq_ediv_of_nonneg i2]; exact e1
    have e4 : Int.tmod (n : Int) 10 = (r : Int) := by rw [Int.tmod_eq_emod_of_nonneg i2]; exact e2
    have q1 : (0 : Int) ≤ (q : Int) := by omega
    have q2 : (q : Int) ≤ 9 := by omega
    have r1 : (0 : Int) ≤ (r : Int) := by omega
    have r2 : (r : Int) ≤ 9 := by omega
    have hd : dig n = [L1.dgB (q : Int), L1.dgB (r : Int)] := by unfold dig; rw [if_neg h10, dgB_of, dgB_of, hq, hr]
    have hcv := conv_two w (q : Int) (r : Int) q1 q2 r1 r2
    rw [hd]
    clear hd h10 h hq hr
    go_enter Tryz.func26, Tryz.ntmps26
    go_wp2_with (simp only [hcv])
    go_ret
    exact ⟨rfl, After.rfl.alloc _⟩
set_option maxHeartbeats 400000 in
theorem atomT_0 (L : List Nd) (T : List W8)  (w : World) : Calls Tryz.prog 27 #[(⟨0, 0, 0, 0⟩ : Nd).val] w fun e w' => e = .returned (.string (S (nodeT L T ⟨0, 0, 0, 0⟩))) ∧ After w w' := by
  unfold Nd.val
  have HD := hideIt (fun W => digits_any 0 (by omega) W)
  have e1 : (⟨#[99]⟩ : ByteArray) ++ S (dig 0) = S (chanW 0) := L1.S_cat [99] (dig 0)
  have z1 : (S (dig 0)).size ≤ 2 := by have := dig_len 0; exact this
  have z2 : (S (chanW 0)).size ≤ 3 := by have := chanW_len 0; exact this
  have eN : nodeT L T ⟨0, 0, 0, 0⟩ = wTrue := rfl
  rw [eN]
  clear eN
  go_enter Tryz.func27, Tryz.ntmps27
  go_wp2_with fail
  refine (HD.out _).mono ?_
  rintro e w1 ⟨rfl, a1⟩
  have hb : w1.heap[w.heap.size]? = some (.cells #[.int .i64 0, .int .i64 0, .int .i64 0, .int .i64 0] 33 (0, 0)) := (a1.block _ (by simp) (fun t => t)).trans (heap_alloc_new w _)
  have c0 := blk_cell hb (i := 0) rfl
  have c3 := blk_cell hb (i := 3) rfl
  have hlt := blk_lt hb
  have HA := hideIt ((After.rfl.alloc _).trans a1)
  clear a1 hb
  go_wp2
  go_ret
  exact ⟨rfl, HA.out⟩
set_option maxHeartbeats 400000 in
theorem atomT_1 (L : List Nd) (T : List W8) (A : Nat) (hA : A < 8) (Nz : Int) (w : World) : Calls Tryz.prog 27 #[(⟨1, (A : Nat), 0, Nz⟩ : Nd).val] w fun e w' => e = .returned (.string (S (nodeT L T ⟨1, (A : Nat), 0, Nz⟩))) ∧ After w w' := by
  unfold Nd.val
  have HD := hideIt (fun W => digits_any A (by omega) W)
  have e1 : (⟨#[99]⟩ : ByteArray) ++ S (dig A) = S (chanW A) := L1.S_cat [99] (dig A)
  have z1 : (S (dig A)).size ≤ 2 := by have := dig_len A; exact this
  have z2 : (S (chanW A)).size ≤ 3 := by have := chanW_len A; exact this
  have eN : nodeT L T ⟨1, (A : Nat), 0, Nz⟩ = chanW A ++ 32 :: 62 :: 32 :: L1.textL Nz := rfl
  have e2 : S (chanW A) ++ (⟨#[32, 62, 32]⟩ : ByteArray) = S (chanW A ++ [32, 62, 32]) := L1.S_cat _ [32, 62, 32]
  have e3 : S (chanW A ++ [32, 62, 32]) ++ S (L1.textL Nz) = S (chanW A ++ 32 :: 62 :: 32 :: L1.textL Nz) := by rw [L1.S_cat]; simp
  have z3 : (S (chanW A ++ [32, 62, 32])).size ≤ 6 := by have := chanW_len A; show (chanW A ++ [32, 62, 32]).length ≤ 6; simp; omega
  have z4 : (S (L1.textL Nz)).size ≤ 15 := textL_len Nz
  have HTx := hideIt (fun W => (L1.refText_any Nz W).mono (fun _ _ ⟨h1, h2⟩ => (⟨h1, After.of h2⟩ : _ ∧ After _ _)))
  rw [eN]
  clear eN
  go_enter Tryz.func27, Tryz.ntmps27
  go_wp2_with fail
  refine (HD.out _).mono ?_
  rintro e w1 ⟨rfl, a1⟩
  have hb : w1.heap[w.heap.size]? = some (.cells #[.int .i64 1, .int .i64 (A : Int), .int .i64 0, .int .i64 Nz] 33 (0, 0)) := (a1.block _ (by simp) (fun t => t)).trans (heap_alloc_new w _)
  have c0 := blk_cell hb (i := 0) rfl
  have c3 := blk_cell hb (i := 3) rfl
  have hlt := blk_lt hb
  have HA := hideIt ((After.rfl.alloc _).trans a1)
  clear a1 hb
  go_wp2_with fail
  refine (HTx.out _).mono ?_
  rintro e w2 ⟨rfl, a2⟩
  have HA2 := hideIt (HA.out.trans a2)
  clear a2
  go_wp2
  go_ret
  exact ⟨rfl, HA2.out⟩
set_option maxHeartbeats 400000 in
theorem atomT_2 (L : List Nd) (T : List W8) (A : Nat) (hA : A < 8) (Nz : Int) (w : World) : Calls Tryz.prog 27 #[(⟨2, (A : Nat), 0, Nz⟩ : Nd).val] w fun e w' => e = .returned (.string (S (nodeT L T ⟨2, (A : Nat), 0, Nz⟩))) ∧ After w w' := by
  unfold Nd.val
  have HD := hideIt (fun W => digits_any A (by omega) W)
  have e1 : (⟨#[99]⟩ : ByteArray) ++ S (dig A) = S (chanW A) := L1.S_cat [99] (dig A)
  have z1 : (S (dig A)).size ≤ 2 := by have := dig_len A; exact this
  have z2 : (S (chanW A)).size ≤ 3 := by have := chanW_len A; exact this
  have eN : nodeT L T ⟨2, (A : Nat), 0, Nz⟩ = chanW A ++ 32 :: 60 :: 32 :: L1.textL Nz := rfl
  have e2 : S (chanW A) ++ (⟨#[32, 60, 32]⟩ : ByteArray) = S (chanW A ++ [32, 60, 32]) := L1.S_cat _ [32, 60, 32]
  have e3 : S (chanW A ++ [32, 60, 32]) ++ S (L1.textL Nz) = S (chanW A ++ 32 :: 60 :: 32 :: L1.textL Nz) := by rw [L1.S_cat]; simp
  have z3 : (S (chanW A ++ [32, 60, 32])).size ≤ 6 := by have := chanW_len A; show (chanW A ++ [32, 60, 32]).length ≤ 6; simp; omega
  have z4 : (S (L1.textL Nz)).size ≤ 15 := textL_len Nz
  have HTx := hideIt (fun W => (L1.refText_any Nz W).mono (fun _ _ ⟨h1, h2⟩ => (⟨h1, After.of h2⟩ : _ ∧ After _ _)))
  rw [eN]
  clear eN
  go_enter Tryz.func27, Tryz.ntmps27
  go_wp2_with fail
  refine (HD.out _).mono ?_
  rintro e w1 ⟨rfl, a1⟩
  have hb : w1.heap[w.heap.size]? = some (.cells #[.int .i64 2, .int .i64 (A : Int), .int .i64 0, .int .i64 Nz] 33 (0, 0)) := (a1.block _ (by simp) (fun t => t)).trans (heap_alloc_new w _)
  have c0 := blk_cell hb (i := 0) rfl
  have c3 := blk_cell hb (i := 3) rfl
  have hlt := blk_lt hb
  have HA := hideIt ((After.rfl.alloc _).trans a1)
  clear a1 hb
  go_wp2_with fail
  refine (HTx.out _).mono ?_
  rintro e w2 ⟨rfl, a2⟩
  have HA2 := hideIt (HA.out.trans a2)
  clear a2
  go_wp2
  go_ret
  exact ⟨rfl, HA2.out⟩
set_option maxHeartbeats 400000 in
theorem atomT_3 (L : List Nd) (T : List W8) (A : Nat) (hA : A < 8) (w : World) : Calls Tryz.prog 27 #[(⟨3, (A : Nat), 0, 0⟩ : Nd).val] w fun e w' => e = .returned (.string (S (nodeT L T ⟨3, (A : Nat), 0, 0⟩))) ∧ After w w' := by
  unfold Nd.val
  have HD := hideIt (fun W => digits_any A (by omega) W)
  have e1 : (⟨#[99]⟩ : ByteArray) ++ S (dig A) = S (chanW A) := L1.S_cat [99] (dig A)
  have z1 : (S (dig A)).size ≤ 2 := by have := dig_len A; exact this
  have z2 : (S (chanW A)).size ≤ 3 := by have := chanW_len A; exact this
  have eN : nodeT L T ⟨3, (A : Nat), 0, 0⟩ = chanW A ++ [32, 104, 105, 103, 104] := rfl
  have e2 : S (chanW A) ++ (⟨#[32, 104, 105, 103, 104]⟩ : ByteArray) = S (chanW A ++ [32, 104, 105, 103, 104]) := L1.S_cat _ [32, 104, 105, 103, 104]
  rw [eN]
  clear eN
  go_enter Tryz.func27, Tryz.ntmps27
  go_wp2_with fail
  refine (HD.out _).mono ?_
  rintro e w1 ⟨rfl, a1⟩
  have hb : w1.heap[w.heap.size]? = some (.cells #[.int .i64 3, .int .i64 (A : Int), .int .i64 0, .int .i64 0] 33 (0, 0)) := (a1.block _ (by simp) (fun t => t)).trans (heap_alloc_new w _)
  have c0 := blk_cell hb (i := 0) rfl
  have c3 := blk_cell hb (i := 3) rfl
  have hlt := blk_lt hb
  have HA := hideIt ((After.rfl.alloc _).trans a1)
  clear a1 hb
  go_wp2
  go_ret
  exact ⟨rfl, HA.out⟩
set_option maxHeartbeats 400000 in
theorem atomT_4 (L : List Nd) (T : List W8) (A : Nat) (hA : A < 8) (w : World) : Calls Tryz.prog 27 #[(⟨4, (A : Nat), 0, 0⟩ : Nd).val] w fun e w' => e = .returned (.string (S (nodeT L T ⟨4, (A : Nat), 0, 0⟩))) ∧ After w w' := by
  unfold Nd.val
  have HD := hideIt (fun W => digits_any A (by omega) W)
  have e1 : (⟨#[99]⟩ : ByteArray) ++ S (dig A) = S (chanW A) := L1.S_cat [99] (dig A)
  have z1 : (S (dig A)).size ≤ 2 := by have := dig_len A; exact this
  have z2 : (S (chanW A)).size ≤ 3 := by have := chanW_len A; exact this
  have eN : nodeT L T ⟨4, (A : Nat), 0, 0⟩ = chanW A ++ [32, 108, 111, 119] := rfl
  have e2 : S (chanW A) ++ (⟨#[32, 108, 111, 119]⟩ : ByteArray) = S (chanW A ++ [32, 108, 111, 119]) := L1.S_cat _ [32, 108, 111, 119]
  rw [eN]
  clear eN
  go_enter Tryz.func27, Tryz.ntmps27
  go_wp2_with fail
  refine (HD.out _).mono ?_
  rintro e w1 ⟨rfl, a1⟩
  have hb : w1.heap[w.heap.size]? = some (.cells #[.int .i64 4, .int .i64 (A : Int), .int .i64 0, .int .i64 0] 33 (0, 0)) := (a1.block _ (by simp) (fun t => t)).trans (heap_alloc_new w _)
  have c0 := blk_cell hb (i := 0) rfl
  have c3 := blk_cell hb (i := 3) rfl
  have hlt := blk_lt hb
  have HA := hideIt ((After.rfl.alloc _).trans a1)
  clear a1 hb
  go_wp2
  go_ret
  exact ⟨rfl, HA.out⟩
set_option maxHeartbeats 400000 in
theorem atomT_5 (L : List Nd) (T : List W8) (A : Nat) (hA : A < 8) (w : World) : Calls Tryz.prog 27 #[(⟨5, (A : Nat), 0, 0⟩ : Nd).val] w fun e w' => e = .returned (.string (S (nodeT L T ⟨5, (A : Nat), 0, 0⟩))) ∧ After w w' := by
  unfold Nd.val
  have HD := hideIt (fun W => digits_any A (by omega) W)
  have e1 : (⟨#[99]⟩ : ByteArray) ++ S (dig A) = S (chanW A) := L1.S_cat [99] (dig A)
  have z1 : (S (dig A)).size ≤ 2 := by have := dig_len A; exact this
  have z2 : (S (chanW A)).size ≤ 3 := by have := chanW_len A; exact this
  have eN : nodeT L T ⟨5, (A : Nat), 0, 0⟩ = chanW A ++ [32, 107, 110, 111, 119, 110] := rfl
  have e2 : S (chanW A) ++ (⟨#[32, 107, 110, 111, 119, 110]⟩ : ByteArray) = S (chanW A ++ [32, 107, 110, 111, 119, 110]) := L1.S_cat _ [32, 107, 110, 111, 119, 110]
  rw [eN]
  clear eN
  go_enter Tryz.func27, Tryz.ntmps27
  go_wp2_with fail
  refine (HD.out _).mono ?_
  rintro e w1 ⟨rfl, a1⟩
  have hb : w1.heap[w.heap.size]? = some (.cells #[.int .i64 5, .int .i64 (A : Int), .int .i64 0, .int .i64 0] 33 (0, 0)) := (a1.block _ (by simp) (fun t => t)).trans (heap_alloc_new w _)
  have c0 := blk_cell hb (i := 0) rfl
  have c3 := blk_cell hb (i := 3) rfl
  have hlt := blk_lt hb
  have HA := hideIt ((After.rfl.alloc _).trans a1)
  clear a1 hb
  go_wp2
  go_ret
  exact ⟨rfl, HA.out⟩
end Go.Proofs.YtlfcihanhfabmaaGreatDoor
