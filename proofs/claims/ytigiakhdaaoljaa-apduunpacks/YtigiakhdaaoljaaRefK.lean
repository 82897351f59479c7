/-
  The document's helpers: known, word, yes, kept.
-/
import Derived.Test.YtigiakhdaaoljaaDualsB
namespace Go.Proofs.Ytigiakhdaaoljaa
open Go.RowKit
set_option maxRecDepth 8000
theorem known_any (w : World) (k : Int) : Calls Try.prog 29 #[.int .i64 k] w fun e w' => e = .returned (.tuple #[.bool (alone k || inData k), .bool (inData k)]) ∧ w' = w := by
  by_cases h : k = 57856 ∨ k = 58112 ∨ k = 58368 ∨ k = 58624 ∨ k = 58880
  · rcases h with rfl | rfl | rfl | rfl | rfl
    all_goals
      go_enter Try.func29, Try.ntmps29
      go_wp2_with fail
      go_ret2
      exact ⟨rfl, rfl⟩
  · by_cases h' : k = 3356 ∨ k = 3357 ∨ k = 3358
    · rcases h' with rfl | rfl | rfl
      all_goals
        go_enter Try.func29, Try.ntmps29
        go_wp2_with fail
        go_ret2
        exact ⟨rfl, rfl⟩
    · rw [show alone k = false from decide_eq_false h, show inData k = false from decide_eq_false h']
      have n1 : (k == 57856) = false := by simpa using fun e => h (.inl e)
      have n2 : (k == 58112) = false := by simpa using fun e => h (.inr (.inl e))
      have n3 : (k == 58368) = false := by simpa using fun e => h (.inr (.inr (.inl e)))
      have n4 : (k == 58624) = false := by simpa using fun e => h (.inr (.inr (.inr (.inl e))))
      have n5 : (k == 58880) = false := by simpa using fun e => h (.inr (.inr (.inr (.inr e))))
      have m1 : (k == 3356) = false := by simpa using fun e => h' (.inl e)
      have m2 : (k == 3357) = false := by simpa using fun e => h' (.inr (.inl e))
      have m3 : (k == 3358) = false := by simpa using fun e => h' (.inr (.inr e))
      clear h h'
      go_enter Try.func29, Try.ntmps29
      go_wp2_with fail
      go_ret2
      exact ⟨rfl, rfl⟩
/-- May a number be? -/
def wd (n : Int) : Bool := decide (0 ≤ n ∧ n ≤ 65535)
theorem word_any (w : World) (n : Int) : Calls Try.prog 48 #[.int .i64 n] w fun e w' => e = .returned (.bool (wd n)) ∧ w' = w := by
  by_cases h0 : 0 ≤ n
  · by_cases h1 : n ≤ 65535
    · rw [show wd n = true from decide_eq_true ⟨h0, h1⟩]
      go_enter Try.func48, Try.ntmps48
      go_wp2_with fail
      go_ret
      exact ⟨rfl, rfl⟩
    · rw [show wd n = false from decide_eq_false (fun h => h1 h.2)]
      go_enter Try.func48, Try.ntmps48
      go_wp2_with fail
      go_ret
      exact ⟨rfl, rfl⟩
  · rw [show wd n = false from decide_eq_false (fun h => h0 h.1)]
    go_enter Try.func48, Try.ntmps48
    go_wp2_with fail
    go_ret
    exact ⟨rfl, rfl⟩
theorem yes_any (w : World) (b : Bool) : Calls Try.prog 53 #[.bool b] w fun e w' => e = .returned (.int .i64 (if b = true then 1 else 0)) ∧ w' = w := by
  cases b
  all_goals
    go_enter Try.func53, Try.ntmps53
    go_wp2_with fail
    go_ret
    exact ⟨rfl, rfl⟩
theorem kept_57856 (w : World) (sa oa ba : Option Addr) (s sc o oc b bc : Nat) (c r q : Int) :
    Calls Try.prog 47 #[.agg #[.int .i64 57856, .slice sa s sc, .int .i64 c, .int .i64 r, .int .i64 q, .slice oa o oc, .slice ba b bc]] w fun e w' => e = .returned (.agg #[.int .i64 57856, .slice sa s sc, .int .i64 c, .int .i64 0, .int .i64 0, .slice none 0 0, .slice none 0 0]) ∧ After w w' := by
  have HA := hideIt (show After w w from After.rfl)
  go_enter Try.func47, Try.ntmps47
  go_wp2_with fail
  refine bodyPost_ret (v := .agg #[.int .i64 57856, .slice sa s sc, .int .i64 c, .int .i64 0, .int .i64 0, .slice none 0 0, .slice none 0 0]) (by simp [results, Try.results47, go_sem]) rfl ⟨rfl, ?_⟩
  repeat (first | exact HA.out | refine After.set ?_ _ (by first | exact Nat.le_refl _ | omega | simp) _ | refine After.alloc ?_ _)
theorem kept_58112 (w : World) (sa oa ba : Option Addr) (s sc o oc b bc : Nat) (c r q : Int) :
    Calls Try.prog 47 #[.agg #[.int .i64 58112, .slice sa s sc, .int .i64 c, .int .i64 r, .int .i64 q, .slice oa o oc, .slice ba b bc]] w fun e w' => e = .returned (.agg #[.int .i64 58112, .slice none 0 0, .int .i64 c, .int .i64 r, .int .i64 0, .slice none 0 0, .slice none 0 0]) ∧ After w w' := by
  have HA := hideIt (show After w w from After.rfl)
  go_enter Try.func47, Try.ntmps47
  go_wp2_with fail
  refine bodyPost_ret (v := .agg #[.int .i64 58112, .slice none 0 0, .int .i64 c, .int .i64 r, .int .i64 0, .slice none 0 0, .slice none 0 0]) (by simp [results, Try.results47, go_sem]) rfl ⟨rfl, ?_⟩
  repeat (first | exact HA.out | refine After.set ?_ _ (by first | exact Nat.le_refl _ | omega | simp) _ | refine After.alloc ?_ _)
theorem kept_3357 (w : World) (sa oa ba : Option Addr) (s sc o oc b bc : Nat) (c r q : Int) :
    Calls Try.prog 47 #[.agg #[.int .i64 3357, .slice sa s sc, .int .i64 c, .int .i64 r, .int .i64 q, .slice oa o oc, .slice ba b bc]] w fun e w' => e = .returned (.agg #[.int .i64 3357, .slice none 0 0, .int .i64 c, .int .i64 r, .int .i64 0, .slice none 0 0, .slice none 0 0]) ∧ After w w' := by
  have HA := hideIt (show After w w from After.rfl)
  go_enter Try.func47, Try.ntmps47
  go_wp2_with fail
  refine bodyPost_ret (v := .agg #[.int .i64 3357, .slice none 0 0, .int .i64 c, .int .i64 r, .int .i64 0, .slice none 0 0, .slice none 0 0]) (by simp [results, Try.results47, go_sem]) rfl ⟨rfl, ?_⟩
  repeat (first | exact HA.out | refine After.set ?_ _ (by first | exact Nat.le_refl _ | omega | simp) _ | refine After.alloc ?_ _)
theorem kept_3356 (w : World) (sa oa ba : Option Addr) (s sc o oc b bc : Nat) (c r q : Int) :
    Calls Try.prog 47 #[.agg #[.int .i64 3356, .slice sa s sc, .int .i64 c, .int .i64 r, .int .i64 q, .slice oa o oc, .slice ba b bc]] w fun e w' => e = .returned (.agg #[.int .i64 3356, .slice none 0 0, .int .i64 c, .int .i64 0, .int .i64 0, .slice oa o oc, .slice none 0 0]) ∧ After w w' := by
  have HA := hideIt (show After w w from After.rfl)
  go_enter Try.func47, Try.ntmps47
  go_wp2_with fail
  refine bodyPost_ret (v := .agg #[.int .i64 3356, .slice none 0 0, .int .i64 c, .int .i64 0, .int .i64 0, .slice oa o oc, .slice none 0 0]) (by simp [results, Try.results47, go_sem]) rfl ⟨rfl, ?_⟩
  repeat (first | exact HA.out | refine After.set ?_ _ (by first | exact Nat.le_refl _ | omega | simp) _ | refine After.alloc ?_ _)
theorem kept_3358 (w : World) (sa oa ba : Option Addr) (s sc o oc b bc : Nat) (c r q : Int) :
    Calls Try.prog 47 #[.agg #[.int .i64 3358, .slice sa s sc, .int .i64 c, .int .i64 r, .int .i64 q, .slice oa o oc, .slice ba b bc]] w fun e w' => e = .returned (.agg #[.int .i64 3358, .slice none 0 0, .int .i64 0, .int .i64 0, .int .i64 0, .slice none 0 0, .slice ba b bc]) ∧ After w w' := by
  have HA := hideIt (show After w w from After.rfl)
  go_enter Try.func47, Try.ntmps47
  go_wp2_with fail
  refine bodyPost_ret (v := .agg #[.int .i64 3358, .slice none 0 0, .int .i64 0, .int .i64 0, .int .i64 0, .slice none 0 0, .slice ba b bc]) (by simp [results, Try.results47, go_sem]) rfl ⟨rfl, ?_⟩
  repeat (first | exact HA.out | refine After.set ?_ _ (by first | exact Nat.le_refl _ | omega | simp) _ | refine After.alloc ?_ _)
theorem kept_58368 (w : World) (sa oa ba : Option Addr) (s sc o oc b bc : Nat) (c r q : Int) :
    Calls Try.prog 47 #[.agg #[.int .i64 58368, .slice sa s sc, .int .i64 c, .int .i64 r, .int .i64 q, .slice oa o oc, .slice ba b bc]] w fun e w' => e = .returned (.agg #[.int .i64 58368, .slice none 0 0, .int .i64 0, .int .i64 0, .int .i64 q, .slice none 0 0, .slice none 0 0]) ∧ After w w' := by
  have HA := hideIt (show After w w from After.rfl)
  go_enter Try.func47, Try.ntmps47
  go_wp2_with fail
  refine bodyPost_ret (v := .agg #[.int .i64 58368, .slice none 0 0, .int .i64 0, .int .i64 0, .int .i64 q, .slice none 0 0, .slice none 0 0]) (by simp [results, Try.results47, go_sem]) rfl ⟨rfl, ?_⟩
  repeat (first | exact HA.out | refine After.set ?_ _ (by first | exact Nat.le_refl _ | omega | simp) _ | refine After.alloc ?_ _)
theorem kept_58624 (w : World) (sa oa ba : Option Addr) (s sc o oc b bc : Nat) (c r q : Int) :
    Calls Try.prog 47 #[.agg #[.int .i64 58624, .slice sa s sc, .int .i64 c, .int .i64 r, .int .i64 q, .slice oa o oc, .slice ba b bc]] w fun e w' => e = .returned (.agg #[.int .i64 58624, .slice none 0 0, .int .i64 0, .int .i64 0, .int .i64 q, .slice none 0 0, .slice none 0 0]) ∧ After w w' := by
  have HA := hideIt (show After w w from After.rfl)
  go_enter Try.func47, Try.ntmps47
  go_wp2_with fail
  refine bodyPost_ret (v := .agg #[.int .i64 58624, .slice none 0 0, .int .i64 0, .int .i64 0, .int .i64 q, .slice none 0 0, .slice none 0 0]) (by simp [results, Try.results47, go_sem]) rfl ⟨rfl, ?_⟩
  repeat (first | exact HA.out | refine After.set ?_ _ (by first | exact Nat.le_refl _ | omega | simp) _ | refine After.alloc ?_ _)
theorem kept_58880 (w : World) (sa oa ba : Option Addr) (s sc o oc b bc : Nat) (c r q : Int) :
    Calls Try.prog 47 #[.agg #[.int .i64 58880, .slice sa s sc, .int .i64 c, .int .i64 r, .int .i64 q, .slice oa o oc, .slice ba b bc]] w fun e w' => e = .returned (.agg #[.int .i64 58880, .slice none 0 0, .int .i64 0, .int .i64 0, .int .i64 q, .slice none 0 0, .slice none 0 0]) ∧ After w w' := by
  have HA := hideIt (show After w w from After.rfl)
  go_enter Try.func47, Try.ntmps47
  go_wp2_with fail
  refine bodyPost_ret (v := .agg #[.int .i64 58880, .slice none 0 0, .int .i64 0, .int .i64 0, .int .i64 q, .slice none 0 0, .slice none 0 0]) (by simp [results, Try.results47, go_sem]) rfl ⟨rfl, ?_⟩
  repeat (first | exact HA.out | refine After.set ?_ _ (by first | exact Nat.le_refl _ | omega | simp) _ | refine After.alloc ?_ _)
theorem kept_any (w : World) (P : Nat → Prop) (M : Msg) (sa : Option Addr) (sc : Nat) (oa : Option Addr) (oc : Nat) (ba : Option Addr) (bc : Nat) (x : MsgX w P M sa sc oa oc ba bc) (hk : alone M.kind = true ∨ inData M.kind = true) :
    Calls Try.prog 47 #[M.val sa sc oa oc ba bc] w fun e w' => ∃ sa' sc' oa' oc' ba' bc', e = .returned ((keep M.kind M).val sa' sc' oa' oc' ba' bc') ∧ MsgX w' P (keep M.kind M) sa' sc' oa' oc' ba' bc' ∧ After w w' := by
  obtain ⟨k, ms, c, r, q, mo, mb⟩ := M
  dsimp only at hk ⊢
  rcases hk.imp of_decide_eq_true of_decide_eq_true with (rfl | rfl | rfl | rfl | rfl) | (rfl | rfl | rfl)
  · exact (kept_57856 w sa oa ba ms.length sc mo.length oc mb.length bc c r q).mono fun e w' ⟨he, h⟩ => ⟨sa, sc, none, 0, none, 0, he, MsgX.ofSys _ _ _ _ (x.after h).sr x.sn x.sp x.sl, h⟩
  · exact (kept_58112 w sa oa ba ms.length sc mo.length oc mb.length bc c r q).mono fun e w' ⟨he, h⟩ => ⟨none, 0, none, 0, none, 0, he, MsgX.nils _ _ _ _ _ _, h⟩
  · exact (kept_58368 w sa oa ba ms.length sc mo.length oc mb.length bc c r q).mono fun e w' ⟨he, h⟩ => ⟨none, 0, none, 0, none, 0, he, MsgX.nils _ _ _ _ _ _, h⟩
  · exact (kept_58624 w sa oa ba ms.length sc mo.length oc mb.length bc c r q).mono fun e w' ⟨he, h⟩ => ⟨none, 0, none, 0, none, 0, he, MsgX.nils _ _ _ _ _ _, h⟩
  · exact (kept_58880 w sa oa ba ms.length sc mo.length oc mb.length bc c r q).mono fun e w' ⟨he, h⟩ => ⟨none, 0, none, 0, none, 0, he, MsgX.nils _ _ _ _ _ _, h⟩
  · exact (kept_3356 w sa oa ba ms.length sc mo.length oc mb.length bc c r q).mono fun e w' ⟨he, h⟩ => ⟨none, 0, oa, oc, none, 0, he, ⟨Row.nil _ _, fun _ => ⟨rfl, rfl⟩, (fun y hy => by cases hy), (by show (0 : Nat) ≤ 140737488355328; omega), (x.after h).or, x.on, x.op, RowT.nil _ _, fun _ => ⟨rfl, rfl⟩, (fun y hy => by cases hy), fun o ho => by cases ho⟩, h⟩
  · exact (kept_3357 w sa oa ba ms.length sc mo.length oc mb.length bc c r q).mono fun e w' ⟨he, h⟩ => ⟨none, 0, none, 0, none, 0, he, MsgX.nils _ _ _ _ _ _, h⟩
  · exact (kept_3358 w sa oa ba ms.length sc mo.length oc mb.length bc c r q).mono fun e w' ⟨he, h⟩ => ⟨none, 0, none, 0, ba, bc, he, ⟨Row.nil _ _, fun _ => ⟨rfl, rfl⟩, (fun y hy => by cases hy), (by show (0 : Nat) ≤ 140737488355328; omega), RowT.nil _ _, fun _ => ⟨rfl, rfl⟩, (fun y hy => by cases hy), (x.after h).br, x.bn, x.bp, x.bb⟩, h⟩
end Go.Proofs.Ytigiakhdaaoljaa
