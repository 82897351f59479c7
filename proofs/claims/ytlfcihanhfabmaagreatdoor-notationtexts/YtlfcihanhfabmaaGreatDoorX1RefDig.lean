/-
  The contract of the document's answer 'digits'.
-/
import Derived.Test.YtlfcihanhfabmaaGreatDoorX1Pure4
namespace Go.Proofs.YtlfcihanhfabmaaGreatDoor.L1
open Go.RowKit
set_option maxRecDepth 8000
/-- 'string([]byte{c})' of a new block. -/
theorem conv_one (W : World) (d : Int) (h0 : 0 ≤ d) (h9 : d ≤ 9) : (convert 44 9 (.slice (some ⟨W.heap.size, 0, none⟩) 1 1)).run Tryz.prog (W.alloc (.cells #[.int .u8 (48 + d)] 5)) = .ok (.string (S [dgB d])) (W.alloc (.cells #[.int .u8 (48 + d)] 5)) := by
  refine run_convert_bytes_back _ 44 9 5 ⟨W.heap.size, 0, none⟩ 1 [dgB d] Tryz.underlying44 Tryz.underlying5 Tryz.underlying9 ?_
  intro j hj
  have hj0 : j = 0 := by simp at hj; omega
  subst hj0
  show _ = some (Value.int .u8 ((dgB d).toNat : Int))
  rw [dgB_val d h0 h9]
  exact one_cell W _ 0 _ rfl
def mOut : Value → Nat
  | .string s => if s.size = 0 then 1 else 0
  | _ => 0
/-- How many digits are wanting. -/
def mOut3 : Value → Nat
  | .string s => 3 - s.size
  | _ => 0
theorem mOut3_lt {a b : List UInt8} {k : Nat} (h : a.length = k) (h' : b.length = k + 1) (hk : k < 3 := by decide) : mOut3 (.string (S b)) < mOut3 (.string (S a)) := by
  show 3 - (S b).size < 3 - (S a).size
  rw [S_size, S_size]; omega
theorem mOut_nil : mOut (.string (S [])) = 1 := rfl
theorem mOut_cons (a : UInt8) (l : List UInt8) : mOut (.string (S (a :: l))) = 0 := by
  show (if (S (a :: l)).size = 0 then 1 else 0) = 0
  rw [S_size, if_neg (by simp)]
theorem dgB_nat (n : Nat) : dgB ((n : Int) % 10) = UInt8.ofNat (48 + n % 10) := by
  unfold dgB
  congr 1
theorem dec_cons (n : Nat) (h : 10 ≤ n) : Lib.decDigits n = Lib.decDigits (n / 10) ++ [dgB ((n : Int) % 10)] := by
  rw [decDigits_step n (by omega), dgB_nat]
theorem dec_last (n : Nat) (h : n < 10) : Lib.decDigits n = [dgB ((n : Int) % 10)] := by
  rw [decDigits_one n h, dgB_nat, Nat.mod_eq_of_lt h]
/-- Where the loop of 'digits' stands: what is left of the number, and what is written. -/
def DigSt (u m : Nat) (l : List UInt8) : Prop := (m = 0 ∧ 1 ≤ l.length ∧ l = Lib.decDigits u) ∨ (m = u ∧ l = []) ∨ (1 ≤ m ∧ 1 ≤ l.length ∧ Lib.decDigits m ++ l = Lib.decDigits u)
theorem dig_step {u m q : Nat} {d : Int} {l : List UInt8} (h : DigSt u m l) (hm : 1 ≤ m ∨ l = []) (hq : q = m / 10) (hd : (m : Int) % 10 = d) : DigSt u q (dgB d :: l) := by
  subst hd
  have key : ∀ (l : List UInt8), Lib.decDigits m ++ l = Lib.decDigits u → DigSt u q (dgB ((m : Int) % 10) :: l) := by
    intro l e
    by_cases h10 : m < 10
    · rw [dec_last m h10] at e
      exact Or.inl ⟨by omega, by simp, e⟩
    · rw [dec_cons m (by omega), List.append_assoc] at e
      refine Or.inr (Or.inr ⟨by omega, by simp, ?_⟩)
      rw [hq]; exact e
  rcases h with ⟨h1, h2, _⟩ | ⟨h1, h2⟩ | ⟨_, _, h3⟩
  · rcases hm with hm | hm
    · omega
    · rw [hm] at h2; simp at h2
  · subst h2
    exact key [] (by rw [List.append_nil, h1])
  · exact key l h3
set_option maxRecDepth 100000 in
set_option maxHeartbeats 1000000 in
theorem digits1_any (u : Nat) (hu : u ≤ 2147483647) (w : World) :
    Calls Tryz.prog 71 #[.int .i64 u, .int .i64 1] w fun e w' => e = .returned (.string (S (Lib.decDigits u))) ∧ After w w' := by
  have hlen := dec_len 9 u (by omega)
  have HLen := hideIt hlen
  clear hlen
  go_enter Tryz.func71, Tryz.ntmps71
  go_wp2
  go_loopw [0, 5] (fun n out wr => Below w.heap.size w wr ∧ ∃ (m : Nat) (l : List UInt8), n = .int .i64 m ∧ m ≤ 2147483647 ∧ out = .string (S l) ∧ DigSt u m l)
    (fun n out _ => 2 * (intOf n).toNat + mOut out)
  case atStart => exact ⟨Below.refl _ _, u, [], rfl, hu, rfl, Or.inr (Or.inl ⟨rfl, rfl⟩)⟩
  case round =>
    obtain ⟨hb, m, l, rfl, hm, rfl, hst⟩ := hrel
    have HST := hideIt hst
    clear hst
    by_cases h1 : 1 ≤ l.length
    · have z1 : 1 ≤ (S l).size := h1
      have z2 : (S l).size ≤ 10 := by
        show l.length ≤ 10
        rcases HST.out with ⟨_, _, h⟩ | ⟨_, h⟩ | ⟨_, _, h⟩
        · rw [h]; exact HLen.out
        · rw [h] at h1; simp at h1
        · have := congrArg List.length h
          rw [List.length_append] at this
          have := HLen.out
          omega
      by_cases hm0 : m = 0
      · subst hm0
        go_wp2
        go_ret
        exact ⟨by
          rcases HST.out with ⟨_, _, h⟩ | ⟨_, h⟩ | ⟨h, _⟩
          · rw [h]; rfl
          · rw [h] at h1; simp at h1
          · omega, hb⟩
      · have hmp : (0 : Int) < m := by omega
        have hB := hb.size
        obtain ⟨d, hd⟩ : ∃ d, (m : Int) % 10 = d := ⟨_, rfl⟩
        obtain ⟨q, hq⟩ : ∃ q : Nat, (m : Int) / 10 = q := ⟨m / 10, by omega⟩
        have d0 : 0 ≤ d := by omega
        have d9 : d ≤ 9 := by omega
        have hcv := conv_one wr d d0 d9
        have hcat : S [dgB d] ++ S l = S (dgB d :: l) := S_cat [dgB d] l
        have z3 : (S [dgB d]).size ≤ 1 := Nat.le_refl _
        have HQ : Hid (q = m / 10) := by show q = m / 10; omega
        have HD : Hid ((m : Int) % 10 = d) := hd
        clear h1
        go_wp2
        go_roundw
        case rel => exact ⟨hb.alloc hB _, q, dgB d :: l, rfl, by have := HQ.out; omega, rfl, dig_step HST.out (Or.inl (by omega)) HQ.out HD.out⟩
        case measure =>
          rw [mOut_cons]
          have := HQ.out
          simp [intOf]; omega
    · have hl : l = [] := List.length_eq_zero_iff.1 (by omega)
      subst hl
      have hB := hb.size
      obtain ⟨d, hd⟩ : ∃ d, (m : Int) % 10 = d := ⟨_, rfl⟩
      obtain ⟨q, hq⟩ : ∃ q : Nat, (m : Int) / 10 = q := ⟨m / 10, by omega⟩
      have d0 : 0 ≤ d := by omega
      have d9 : d ≤ 9 := by omega
      have hcv := conv_one wr d d0 d9
      have hcat : S [dgB d] ++ S [] = S [dgB d] := S_cat [dgB d] []
      have z0 : (S []).size = 0 := rfl
      have z3 : (S [dgB d]).size ≤ 1 := Nat.le_refl _
      have HQ : Hid (q = m / 10) := by show q = m / 10; omega
      have HD : Hid ((m : Int) % 10 = d) := hd
      by_cases hm0 : m = 0
      · subst hm0
        have hq0 : q = 0 := by have := HQ.out; omega
        have hd0 : d = 0 := by have := HD.out; omega
        subst hq0 hd0
        rw [show (48 + 0 : Int) = 48 from rfl] at hcv
        clear h1 hd hq
        go_wp2
        go_roundw
        case rel => exact ⟨hb.alloc hB _, 0, [dgB 0], rfl, by omega, rfl, dig_step HST.out (Or.inr rfl) rfl rfl⟩
        case measure =>
          rw [mOut_cons, mOut_nil]
          simp [intOf]
      · have hmp : (0 : Int) < m := by omega
        clear h1
        go_wp2
        go_roundw
        case rel => exact ⟨hb.alloc hB _, q, [dgB d], rfl, by have := HQ.out; omega, rfl, dig_step HST.out (Or.inr rfl) HQ.out HD.out⟩
        case measure =>
          rw [mOut_cons, mOut_nil]
          have := HQ.out
          simp [intOf]; omega

set_option maxRecDepth 100000 in
set_option maxHeartbeats 1000000 in
theorem digits3_any (p : Int) (h0 : 0 ≤ p) (h1 : p < 1000) (w : World) :
    Calls Tryz.prog 71 #[.int .i64 p, .int .i64 3] w fun e w' => e = .returned (.string (S [dgB (p / 100), dgB (p % 100 / 10), dgB (p % 10)])) ∧ After w w' := by
  obtain ⟨q, hq⟩ : ∃ q, q = p / 10 := ⟨_, rfl⟩
  obtain ⟨r, hr⟩ : ∃ r, r = p % 10 := ⟨_, rfl⟩
  obtain ⟨q2, hq2⟩ : ∃ q, q = p / 100 := ⟨_, rfl⟩
  obtain ⟨r2, hr2⟩ : ∃ r, r = p % 100 / 10 := ⟨_, rfl⟩
  rw [← hq2, ← hr2, ← hr]
  have b1 : 0 ≤ q := by omega
  have b2 : q ≤ 99 := by omega
  have b3 : 0 ≤ r := by omega
  have b4 : r ≤ 9 := by omega
  have b5 : 0 ≤ q2 := by omega
  have b6 : q2 ≤ 9 := by omega
  have b7 : 0 ≤ r2 := by omega
  have b8 : r2 ≤ 9 := by omega
  have HQ : Hid (p / 10 = q ∧ p % 10 = r ∧ q / 10 = q2 ∧ q % 10 = r2 ∧ q2 / 10 = 0 ∧ q2 % 10 = q2) := ⟨by omega, by omega, by omega, by omega, by omega, by omega⟩
  have HN : Hid (∀ (n d : Int) (l : List UInt8), S [dgB d] ++ S l = S (dgB d :: l)) := fun n d l => S_cat [dgB d] l
  clear hq hr hq2 hr2
  go_enter Tryz.func71, Tryz.ntmps71
  go_wp2
  go_loopw [0, 5] (fun n out wr => Below w.heap.size w wr ∧
      ((n = .int .i64 p ∧ out = .string (S [])) ∨ (n = .int .i64 q ∧ out = .string (S [dgB r])) ∨ (n = .int .i64 q2 ∧ out = .string (S [dgB r2, dgB r])) ∨ (n = .int .i64 0 ∧ out = .string (S [dgB q2, dgB r2, dgB r]))))
    (fun _ out _ => mOut3 out)
  case atStart => exact ⟨Below.refl _ _, Or.inl ⟨rfl, rfl⟩⟩
  case round =>
    obtain ⟨hb, ⟨rfl, rfl⟩ | ⟨rfl, rfl⟩ | ⟨rfl, rfl⟩ | ⟨rfl, rfl⟩⟩ := hrel
    · have hB := hb.size
      have hcv := conv_one wr r b3 b4
      have hcat : S [dgB r] ++ S [] = S [dgB r] := S_cat [dgB r] []
      have z0 : (S []).size = 0 := rfl
      have z3 : (S [dgB r]).size = 1 := rfl
      have e1 := HQ.out.1
      have e2 := HQ.out.2.1
      by_cases hp : p = 0
      · have hq0 : q = 0 := by omega
        have hr0 : r = 0 := by omega
        subst hp hq0 hr0
        rw [show (48 + 0 : Int) = 48 from rfl] at hcv
        clear e1 e2
        go_wp2
        go_roundw
        case rel => exact ⟨hb.alloc hB _, Or.inr (Or.inl ⟨rfl, rfl⟩)⟩
        case measure => decide
      · have hp' : 0 < p := by omega
        go_wp2
        go_roundw
        case rel => exact ⟨hb.alloc hB _, Or.inr (Or.inl ⟨by rw [HQ.out.1], rfl⟩)⟩
        case measure => exact mOut3_lt (k := 0) rfl rfl
    · have hB := hb.size
      have hcv := conv_one wr r2 b7 b8
      have hcat : S [dgB r2] ++ S [dgB r] = S [dgB r2, dgB r] := S_cat [dgB r2] [dgB r]
      have z0 : (S [dgB r]).size = 1 := rfl
      have z3 : (S [dgB r2]).size = 1 := rfl
      have e1 := HQ.out.2.2.1
      have e2 := HQ.out.2.2.2.1
      by_cases hp : q = 0
      · have hq0 : q2 = 0 := by omega
        have hr0 : r2 = 0 := by omega
        subst hp hq0 hr0
        rw [show (48 + 0 : Int) = 48 from rfl] at hcv
        clear e1 e2
        go_wp2
        go_roundw
        case rel => exact ⟨hb.alloc hB _, Or.inr (Or.inr (Or.inl ⟨rfl, rfl⟩))⟩
        case measure => exact mOut3_lt (k := 1) rfl rfl
      · have hp' : 0 < q := by omega
        go_wp2
        go_roundw
        case rel => exact ⟨hb.alloc hB _, Or.inr (Or.inr (Or.inl ⟨by rw [HQ.out.2.2.1], rfl⟩))⟩
        case measure => exact mOut3_lt (k := 1) rfl rfl
    · have hB := hb.size
      have hcv := conv_one wr q2 b5 b6
      have hcat : S [dgB q2] ++ S [dgB r2, dgB r] = S [dgB q2, dgB r2, dgB r] := S_cat [dgB q2] [dgB r2, dgB r]
      have z0 : (S [dgB r2, dgB r]).size = 2 := rfl
      have z3 : (S [dgB q2]).size = 1 := rfl
      have e1 := HQ.out.2.2.2.2.1
      have HE : Hid (q2 % 10 = q2) := HQ.out.2.2.2.2.2
      by_cases hp : q2 = 0
      · subst hp
        rw [show (48 + 0 : Int) = 48 from rfl] at hcv
        clear e1
        go_wp2
        go_roundw
        case rel => exact ⟨hb.alloc hB _, Or.inr (Or.inr (Or.inr ⟨rfl, rfl⟩))⟩
        case measure => exact mOut3_lt (k := 2) rfl rfl
      · have hp' : 0 < q2 := by omega
        obtain ⟨d, hd⟩ : ∃ d, q2 % 10 = d := ⟨_, rfl⟩
        have hdq : d = q2 := by have := HE.out; omega
        have HDQ := hideIt hdq
        rw [← hdq] at hcv hcat z3
        clear hdq
        go_wp2
        go_roundw
        case rel => exact ⟨hb.alloc hB _, Or.inr (Or.inr (Or.inr ⟨by rw [HQ.out.2.2.2.2.1], by rw [HDQ.out]⟩))⟩
        case measure => exact mOut3_lt (k := 2) rfl rfl
    · have z0 : (S [dgB q2, dgB r2, dgB r]).size = 3 := rfl
      go_wp2
      go_ret
      exact ⟨rfl, hb⟩
end Go.Proofs.YtlfcihanhfabmaaGreatDoor.L1
