/-
  Whether nothing of a message was left out.
-/
import Derived.Test.YtigiakhdaaoljaaMess
import Derived.Test.YtigiakhdaaoljaaCatch
namespace Go.Proofs.Ytigiakhdaaoljaa
open Go.RowKit
set_option maxRecDepth 8000
def sameB (s s' : Nat) (c c' r r' q q' : Int) (o o' b b' : Nat) : Bool := decide (s = s' ∧ c = c' ∧ r = r' ∧ q = q' ∧ o = o' ∧ b = b')
set_option maxHeartbeats 1000000 in
theorem same25 (w : World) (k k' : Int) (sa sa' oa oa' ba ba' : Option Addr) (s s' sc sc' : Nat) (c c' r r' q q' : Int) (o o' oc oc' b b' bc bc' : Nat) :
    Calls Try.prog 25 #[.agg #[.int .i64 k, .slice sa s sc, .int .i64 c, .int .i64 r, .int .i64 q, .slice oa o oc, .slice ba b bc], .agg #[.int .i64 k', .slice sa' s' sc', .int .i64 c', .int .i64 r', .int .i64 q', .slice oa' o' oc', .slice ba' b' bc']] w fun e w' => e = .returned (.bool (sameB s s' c c' r r' q q' o o' b b')) ∧ After w w' := by
  have HA := hideIt (After.rfl (w := w))
  obtain ⟨f, hf⟩ : ∃ f, sameB s s' c c' r r' q q' o o' b b' = f := ⟨_, rfl⟩
  unfold sameB at hf
  rw [show sameB s s' c c' r r' q q' o o' b b' = f from hf]
  by_cases h0 : s = s'
  rotate_left
  · have k0 : (((s : Nat) : Int) == ((s' : Nat) : Int)) = false := by simpa using (fun e => h0 (by omega))
    obtain rfl : f = false := by rw [← hf]; exact decide_eq_false (fun t => h0 t.1)
    clear hf h0
    go_enter Try.func25, Try.ntmps25
    go_wp2_with fail
    go_ret
    exact ⟨rfl, (HA.out.alloc _).alloc _⟩
  subst h0
  by_cases h1 : c = c'
  rotate_left
  · have k1 : (c == c') = false := by simpa using (fun e => h1 (by omega))
    obtain rfl : f = false := by rw [← hf]; exact decide_eq_false (fun t => h1 t.2.1)
    clear hf h1
    go_enter Try.func25, Try.ntmps25
    go_wp2_with fail
    go_ret
    exact ⟨rfl, (HA.out.alloc _).alloc _⟩
  subst h1
  by_cases h2 : r = r'
  rotate_left
  · have k2 : (r == r') = false := by simpa using (fun e => h2 (by omega))
    obtain rfl : f = false := by rw [← hf]; exact decide_eq_false (fun t => h2 t.2.2.1)
    clear hf h2
    go_enter Try.func25, Try.ntmps25
    go_wp2_with fail
    go_ret
    exact ⟨rfl, (HA.out.alloc _).alloc _⟩
  subst h2
  by_cases h3 : q = q'
  rotate_left
  · have k3 : (q == q') = false := by simpa using (fun e => h3 (by omega))
    obtain rfl : f = false := by rw [← hf]; exact decide_eq_false (fun t => h3 t.2.2.2.1)
    clear hf h3
    go_enter Try.func25, Try.ntmps25
    go_wp2_with fail
    go_ret
    exact ⟨rfl, (HA.out.alloc _).alloc _⟩
  subst h3
  by_cases h4 : o = o'
  rotate_left
  · have k4 : (((o : Nat) : Int) == ((o' : Nat) : Int)) = false := by simpa using (fun e => h4 (by omega))
    obtain rfl : f = false := by rw [← hf]; exact decide_eq_false (fun t => h4 t.2.2.2.2.1)
    clear hf h4
    go_enter Try.func25, Try.ntmps25
    go_wp2_with fail
    go_ret
    exact ⟨rfl, (HA.out.alloc _).alloc _⟩
  subst h4
  by_cases h5 : b = b'
  rotate_left
  · have k5 : (((b : Nat) : Int) == ((b' : Nat) : Int)) = false := by simpa using (fun e => h5 (by omega))
    obtain rfl : f = false := by rw [← hf]; exact decide_eq_false (fun t => h5 t.2.2.2.2.2)
    clear hf h5
    go_enter Try.func25, Try.ntmps25
    go_wp2_with fail
    go_ret
    exact ⟨rfl, (HA.out.alloc _).alloc _⟩
  subst h5
  obtain rfl : f = true := by rw [← hf]; simp
  clear hf
  go_enter Try.func25, Try.ntmps25
  go_wp2_with fail
  go_ret
  exact ⟨rfl, (HA.out.alloc _).alloc _⟩
end Go.Proofs.Ytigiakhdaaoljaa
