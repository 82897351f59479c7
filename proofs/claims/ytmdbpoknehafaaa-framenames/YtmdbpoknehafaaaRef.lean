/-
  The document's sums, and the helper EqBytes.
-/
import Derived.Test.YtmdbpoknehafaaaSum
namespace Go.Proofs.Ytmdbpoknehafaaa
open Go.RowKit
set_option maxRecDepth 100000 in
set_option maxHeartbeats 1000000 in
theorem refSum16_any (a : Option Addr) (n c : Nat) (zs : List Int) (w : World) (hr : Row w a n zs) (hn : n ≤ 140737488355328) :
    Calls Try.prog 30 #[.slice a n c] w fun e w' => e = .returned (.int .u16 (sum16 zs : Nat)) ∧ w' = w := by
  have HR := hideIt hr
  clear hr
  have HN : Hid (∀ k, k ≤ n → fold16 65535 (zs.take k) < 65536) := fun k _ => fold16_lt (by omega) (HR.out.2.1.take k)
  have HM : Hid (∀ k, k < n → fold16 65535 (zs.take (k + 1)) = step16 (fold16 65535 (zs.take k)) (zs.getD k 0).toNat) := fun k hk => fold16_more (by rw [HR.out.1]; exact hk)
  have HE : Hid (fold16 65535 (zs.take n) = sum16 zs) := by
    unfold Hid sum16; rw [← HR.out.1, List.take_length]
  have hz0 : Hid (65535 = fold16 65535 (zs.take 0)) := by
    unfold Hid; rw [List.take_zero]; exact Eq.refl _
  generalize sum16 zs = Z at *
  go_enter Try.func30, Try.ntmps30
  go_wp2_with fail
  go_loop [3, 4] (fun s i => ∃ k : Nat, k ≤ n ∧ i = .int .i64 k ∧ s = .int .u16 (fold16 65535 (zs.take k) : Nat)) (fun _ i => n - (intOf i).toNat)
  case atStart => exact ⟨0, by omega, rfl, congrArg (fun x : Nat => Value.int .u16 (x : Int)) hz0.out⟩
  case round =>
    obtain ⟨k, hk, rfl, rfl⟩ := hrel
    by_cases hlt : k < n
    · obtain ⟨b, off, x, rfl, hbl, hx, hzx, hcx⟩ := HR.out.at hlt
      have e1 := HM.out k hlt
      rw [hzx, Int.toNat_natCast] at e1
      have hs := HN.out k hk
      obtain ⟨S, hS⟩ : ∃ S, S = fold16 65535 (zs.take k) := ⟨_, rfl⟩
      rw [← hS] at e1 hs ⊢
      have E1 := hideIt e1
      have LS := hideIt hs
      have LX := hideIt hx
      clear HR HN HM HE hz0 e1 hS hzx hs hx
      go_wp2_with (go_at_call 34; refine (refStep16_any S x _ LS.out LX.out).mono ?_; rintro e w' ⟨rfl, rfl⟩; rw [← E1.out])
      go_round
      case rel => exact ⟨k + 1, by omega, by go_num, rfl⟩
      case measure => simp [intOf]; omega
    · obtain rfl : k = n := by omega
      rw [HE.out]
      go_wp2
      go_ret
      exact ⟨rfl, rfl⟩
set_option maxRecDepth 100000 in
set_option maxHeartbeats 400000 in
theorem eqBytes_same (a a' : Option Addr) (n c c' : Nat) (zs : List Int) (w : World) (h1 : Row w a n zs) (h2 : Row w a' n zs) (hn : n ≤ 140737488355328) :
    Calls Try.prog 17 #[.slice a n c, .slice a' n c'] w fun e w' => e = .returned (.bool true) ∧ After w w' := by
  have H1 := hideIt h1
  have H2 := hideIt h2
  clear h1 h2
  go_enter Try.func17, Try.ntmps17
  go_wp2
  go_loopw [5] (fun i wr => ∃ k m : Nat, k ≤ n ∧ i = .int .i64 k ∧ wr = w.drewN m) (fun i _ => n - (intOf i).toNat)
  case atStart => exact ⟨0, 0, Nat.zero_le _, rfl, rfl⟩
  case round =>
    obtain ⟨k, m, hk, rfl, rfl⟩ := hrel
    by_cases hlt : k < n
    · obtain ⟨b1, o1, x1, rfl, _, l1, e1, c1⟩ := H1.out.at hlt
      obtain ⟨b2, o2, x2, rfl, _, l2, e2, c2⟩ := H2.out.at hlt
      obtain rfl : x1 = x2 := by omega
      clear l1 e1 l2 e2
      go_wp2
      go_region
      go_wp2
      go_roundw
      case rel => exact ⟨k + 1, m + 1, by omega, by go_num, rfl⟩
      case measure => simp [intOf]; omega
    · go_wp2
      go_ret
      exact ⟨rfl, After.rfl.draws m⟩
end Go.Proofs.Ytmdbpoknehafaaa
