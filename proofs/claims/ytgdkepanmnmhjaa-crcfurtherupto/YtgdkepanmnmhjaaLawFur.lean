/-
  The walk of CrcFurther.
-/
import Derived.Test.YtgdkepanmnmhjaaWorks
import Derived.Test.YtgdkepanmnmhjaaPureB
import Derived.Laws.OwnMore
namespace Go.Proofs.Ytgdkepanmnmhjaa
open Go.RowKit
theorem two_row (w : World) (p q : Nat) (hp : p < 256) (hq : q < 256) : Row (w.alloc (.cells #[.int .u8 p, .int .u8 q] 5)) (some ⟨w.heap.size, 0, none⟩) 2 [(p : Int), (q : Int)] := by
  have h := World.ownsRow_lit (base := w.heap.size) (e := 5) (size := 1) w #[.int .u8 p, .int .u8 q] 2 (Nat.le_refl _) (by decide) rfl
  obtain ⟨a, c, e, hr, _⟩ := own_row (zs := [(p : Int), (q : Int)]) h (by intro z hz; simp at hz; omega)
  cases e
  exact hr
set_option maxRecDepth 100000 in
set_option maxHeartbeats 1000000 in
theorem further_walk (a : Option Addr) (n c : Nat) (zs : List Int) (a' : Option Addr) (n' c' : Nat) (ys : List Int) (w : World) (hr : Row w a n zs) (ha : a = none → n = 0 ∧ c = 0) (hr' : Row w a' n' ys) (ha' : a' = none → n' = 0 ∧ c' = 0) (hn : n ≤ 70368744177664) (hn' : n' ≤ 70368744177664) :
    Calls Try.prog 5 #[.slice a n c, .slice a' n' c'] w fun e w' => e = .returned (.bool true) ∧ After w w' := by
  have HR := hideIt hr
  have HA := hideIt ha
  have HR' := hideIt hr'
  have HA' := hideIt ha'
  have HN := hideIt (And.intro hn (And.intro hn' (show n ≤ 140737488355328 ∧ n + n' ≤ 140737488355328 ∧ n + 2 ≤ 140737488355328 by omega)))
  have hnn : (n' : Int) ≤ 70368744177664 := by omega
  clear hr ha hr' ha' hn hn'
  obtain ⟨S, hS⟩ : ∃ S, S = sum16 zs := ⟨_, rfl⟩
  obtain ⟨Z, hZ⟩ : ∃ Z, Z = sum16 (zs ++ ys) := ⟨_, rfl⟩
  have lS : S < 65536 := by rw [hS]; exact fold16_lt (by omega) HR.out.2.1
  have F0 : Hid (S = fold16 S (ys.take 0)) := by unfold Hid; rw [List.take_zero]; exact Eq.refl _
  have F1 : Hid (∀ k, k ≤ n' → fold16 S (ys.take k) < 65536) := fun k _ => fold16_lt lS (HR'.out.2.1.take k)
  have F2 : Hid (∀ k, k < n' → fold16 S (ys.take (k + 1)) = step16 (fold16 S (ys.take k)) (ys.getD k 0).toNat) := fun k hk => fold16_more (by rw [HR'.out.1]; exact hk)
  have F3 : Hid (fold16 S (ys.take n') = Z) := by
    unfold Hid; rw [← HR'.out.1, List.take_length, hZ, hS]; exact (fold16_append _ _ _).symm
  have F4 : Hid (sum16 (zs ++ [((S / 256 : Nat) : Int), ((S % 256 : Nat) : Int)]) = 0) := by
    unfold Hid; rw [hS]; exact sum16_behind HR.out.2.1
  have HS := hideIt hS
  have HZ := hideIt hZ
  clear hS hZ
  go_enter Try.func5, Try.ntmps5
  go_wp2_with fail
  refine (awake_any _).mono ?_
  rintro e w1 ⟨rfl, h1⟩
  have A1 := hideIt h1
  clear h1
  go_wp2_with fail
  refine (sum16_any _ _ _ _ _ (HR.out.after A1.out) HN.out.2.2.1).mono ?_
  rintro e w2 ⟨rfl, h2⟩
  rw [← HS.out]
  have A2 := hideIt (A1.out.trans h2)
  clear h2 A1
  go_wp2_with fail
  go_loop [5, 6] (fun s i => ∃ k : Nat, k ≤ n' ∧ i = .int .i64 k ∧ s = .int .u16 (fold16 S (ys.take k) : Nat)) (fun _ i => n' - (intOf i).toNat)
  case atStart => exact ⟨0, by omega, rfl, congrArg (fun x : Nat => Value.int .u16 (x : Int)) F0.out⟩
  case round =>
    obtain ⟨k, hk, rfl, rfl⟩ := hrel
    by_cases hlt : k < n'
    · obtain ⟨b, off, x, rfl, hbl, hx, hzx, hcx⟩ := (HR'.out.after A2.out).at hlt
      have e1 := F2.out k hlt
      rw [hzx, Int.toNat_natCast] at e1
      have hs := F1.out k hk
      obtain ⟨T, hT⟩ : ∃ T, T = fold16 S (ys.take k) := ⟨_, rfl⟩
      rw [← hT] at e1 hs ⊢
      have E1 := hideIt e1
      have LS := hideIt hs
      have LX := hideIt hx
      clear HR HA HR' HA' F0 F1 F2 F3 F4 e1 hT hzx hs hx
      go_wp2_with (go_at_call 16; refine (step16_any T x _ LS.out LX.out).mono ?_; rintro e w' ⟨rfl, rfl⟩; rw [← E1.out])
      go_round
      case rel => exact ⟨k + 1, by omega, by go_num, rfl⟩
      case measure => simp [intOf]; omega
    · obtain rfl : k = n' := by omega
      rw [F3.out]
      have lSi : (S : Int) < 65536 := by omega
      clear F0 F1 F2 F3 hlt hk
      go_wp2_with fail
      refine (join_any _ _ _ _ _ _ _ _ _ (HR.out.after A2.out) HA.out (HR'.out.after A2.out) HA'.out HN.out.2.2.2.1).mono ?_
      rintro e w3 ⟨v, rfl, o3, h3⟩
      obtain ⟨a3, c3, rfl, r3, _⟩ := own_row o3 (fun z hz => by rcases List.mem_append.1 hz with h | h; exact HR.out.2.1 z h; exact HR'.out.2.1 z h)
      have R3 := hideIt r3
      have A3 := hideIt (A2.out.trans h3)
      clear o3 r3 h3 A2
      go_wp2_with fail
      refine (sum16_any _ _ _ _ _ R3.out HN.out.2.2.2.1).mono ?_
      rintro e w4 ⟨rfl, h4⟩
      rw [← HZ.out]
      have A4 := hideIt (A3.out.trans h4)
      clear h4 R3 A3
      go_wp2_with fail
      refine (sum16_any _ _ _ _ _ (HR.out.after A4.out) HN.out.2.2.1).mono ?_
      rintro e w5 ⟨rfl, h5⟩
      rw [← HS.out]
      have A5 := hideIt (A4.out.trans h5)
      clear h5 A4
      go_wp2_with fail
      refine (sum16_any _ _ _ _ _ (HR.out.after A5.out) HN.out.2.2.1).mono ?_
      rintro e w6 ⟨rfl, h6⟩
      rw [← HS.out]
      have A6 := hideIt (A5.out.trans h6)
      clear h6 A5
      go_wp2_with fail
      refine (join_any a n c zs (some ⟨w6.heap.size, 0, none⟩) 2 2 [((S / 256 : Nat) : Int), ((S % 256 : Nat) : Int)] (w6.alloc (.cells #[.int .u8 ((S / 256 : Nat) : Int), .int .u8 ((S % 256 : Nat) : Int)] 5)) (HR.out.after (A6.out.alloc _)) HA.out (two_row w6 (S / 256) (S % 256) (by omega) (by omega)) (fun h => by cases h) HN.out.2.2.2.2).mono ?_
      rintro e w7 ⟨v, rfl, o7, h7⟩
      obtain ⟨a7, c7, rfl, r7, _⟩ := own_row o7 (fun z hz => by rcases List.mem_append.1 hz with h | h; exact HR.out.2.1 z h; (simp at h; omega))
      have R7 := hideIt r7
      have A7 := hideIt ((A6.out.alloc _).trans h7)
      clear o7 r7 h7 A6
      go_wp2_with fail
      refine (sum16_any _ _ _ _ _ R7.out HN.out.2.2.2.2).mono ?_
      rintro e w8 ⟨rfl, h8⟩
      rw [F4.out]
      have A8 := hideIt (A7.out.trans h8)
      clear h8 R7 A7
      go_wp2
      go_ret
      exact ⟨rfl, A8.out⟩
end Go.Proofs.Ytgdkepanmnmhjaa
