/-
  Keepers: what lies in memory for a node that keeps a number; what its step answers and keeps; how they are made.
-/
import Derived.Test.YthgmjeljjladhaaRuP
import Derived.Test.YthgmjeljjladhaaFoB
import Derived.Test.YthgmjeljjladhaaFoJ
import Derived.Lib.MinMax
namespace Go.Proofs.Ythgmjeljjladhaa
open Go.RowKit
set_option maxRecDepth 8000
/-- A block of one int. -/
abbrev IntB (w : World) (q : Nat) (z : Int) : Prop := w.heap[q]? = some (.cells #[.int .i64 z] 3 (0, 0))
theorem IntB.but {S : Nat → Prop} {w w' : World} {q : Nat} {z : Int} (h : IntB w q z) (b : But S w w') (hn : ¬ S q) : IntB w' q z := (b.block q (blk_lt h) hn).trans h
theorem number_any (b : Bool) (w : World) : Calls Try.prog 49 #[.bool b] w fun e w' => e = .returned (.int .i64 (b2i b)) ∧ w' = w := by
  cases b
  all_goals
    go_enter Try.func49, Try.ntmps49
    go_wp2
    go_ret
    exact ⟨rfl, rfl⟩
theorem prev_step {w : World} {q : Nat} {z : Int} (h : IntB w q z) (a b : Bool) : Calls Try.prog 48 #[.bool a, .bool b, Ptr q] w fun e w' => e = .returned (.bool (z == 1)) ∧ IntB w' q (b2i a) ∧ But (One q) w w' := by
  obtain ⟨h1, h2, h3⟩ := one_at h
  have HN := hideIt (number_any a w)
  have HB := hideIt h
  clear h
  generalize b2i a = n at *
  generalize hq : (z == 1) = r
  go_enter Try.func48, Try.ntmps48
  go_wp2_with (go_at_call 49; refine HN.out.mono ?_; rintro e w1 ⟨rfl, rfl⟩)
  go_ret
  exact ⟨rfl, one_set HB.out _, but_one _ _ _ _⟩
theorem since_step {w : World} {q : Nat} {z : Int} (h : IntB w q z) (a b : Bool) : Calls Try.prog 52 #[.bool a, .bool b, Ptr q] w fun e w' => e = .returned (.bool (b || (a && (z == 1)))) ∧ IntB w' q (b2i (b || (a && (z == 1)))) ∧ But (One q) w w' := by
  obtain ⟨h1, h2, h3⟩ := one_at h
  have HN := hideIt (fun r => number_any r w)
  have HB := hideIt h
  clear h
  cases b with
  | true =>
    go_enter Try.func52, Try.ntmps52
    go_wp2_with (go_at_call 49; refine (HN.out true).mono ?_; rintro e w1 ⟨rfl, rfl⟩)
    go_ret
    exact ⟨rfl, one_set HB.out _, but_one _ _ _ _⟩
  | false =>
    cases a with
    | false =>
      go_enter Try.func52, Try.ntmps52
      go_wp2_with (go_at_call 49; refine (HN.out false).mono ?_; rintro e w1 ⟨rfl, rfl⟩)
      go_ret
      exact ⟨rfl, one_set HB.out _, but_one _ _ _ _⟩
    | true =>
      simp only [Bool.false_or, Bool.true_and]
      generalize hq : (z == 1) = r
      have HN2 := hideIt (HN.out r)
      go_enter Try.func52, Try.ntmps52
      go_wp2_with (go_at_call 49; refine HN2.out.mono ?_; rintro e w1 ⟨rfl, rfl⟩)
      go_ret
      exact ⟨rfl, one_set HB.out _, but_one _ _ _ _⟩
theorem once_step {w : World} {q p : Nat} {z n : Int} (h : IntB w q z) (hp : IntB w p n) (hpq : p ≠ q) (hz : 0 ≤ z ∧ z ≤ 64) (a b : Bool) : Calls Try.prog 50 #[.bool a, .bool b, Ptr q, Ptr p] w fun e w' => e = .returned (.bool (a || decide (0 < z))) ∧ IntB w' q (if a = true then n else max (z - 1) 0) ∧ But (One q) w w' := by
  obtain ⟨h1, h2, h3⟩ := one_at h
  obtain ⟨p1, p2, p3⟩ := one_at hp
  obtain ⟨W1, hW1⟩ : ∃ W1, W1 = w.setCell ⟨q, 0, none⟩ (.int .i64 (max (z - 1) 0)) := ⟨_, rfl⟩
  have k1 : IntB W1 q (max (z - 1) 0) := by rw [hW1]; exact one_set h _
  have b1 : But (One q) w W1 := by rw [hW1]; exact but_one _ _ _ _
  have k2 : IntB W1 p n := hp.but b1 hpq
  obtain ⟨c1, c2, c3⟩ := one_at k1
  obtain ⟨e1, e2, e3⟩ := one_at k2
  have HB := hideIt (And.intro k1 (And.intro k2 b1))
  have HW := hideIt hW1
  clear h hp k1 k2 b1 hW1
  cases a with
  | true =>
    go_enter Try.func50, Try.ntmps50
    go_wp2
    rw [← HW.out]
    go_wp2
    go_ret
    exact ⟨rfl, one_set HB.out.1 _, HB.out.2.2.trans (but_one _ _ _ _)⟩
  | false =>
    rw [Bool.false_or, if_neg (by simp)]
    go_enter Try.func50, Try.ntmps50
    go_wp2
    go_ret
    rw [← HW.out]
    exact ⟨rfl, HB.out.1, HB.out.2.2⟩
theorem hist_step {w : World} {r q p : Nat} {z n : Int} (hr : w.heap[r]? = some (.cells #[.func (.func 50) #[] #[Ptr q, Ptr p]] 64 (0, 0))) (h : IntB w q z) (hp : IntB w p n) (hpq : p ≠ q) (hz : 0 ≤ z ∧ z ≤ 64) (a b : Bool) : Calls Try.prog 51 #[.bool a, .bool b, Ptr r] w fun e w' => e = .returned (.bool (!(!a || decide (0 < z)))) ∧ IntB w' q (if a = true then max (z - 1) 0 else n) ∧ But (One q) w w' := by
  obtain ⟨h1, h2, h3⟩ := one_at hr
  have HO := hideIt (once_step h hp hpq hz (!a) b)
  clear h hp hr
  generalize hq : (!a || decide (0 < z)) = s at *
  have he : (if (!a) = true then n else max (z - 1) 0) = (if a = true then max (z - 1) 0 else n) := by cases a <;> simp
  rw [he] at HO
  clear he
  generalize (if a = true then max (z - 1) 0 else n) = N at *
  go_enter Try.func51, Try.ntmps51
  go_wp2_with (go_at_call 50; refine HO.out.mono ?_; rintro e w1 ⟨rfl, k1, k2⟩; have HK := hideIt (And.intro k1 k2); clear k1 k2)
  go_ret
  exact ⟨rfl, HK.out.1, HK.out.2⟩
/-- Blocks from lo on, ahead of hi. -/
def Rng (lo hi : Nat) : Nat → Prop := fun k => lo ≤ k ∧ k < hi
/-- What a field that is told by a function holds: nothing, or a function with what it captures. -/
structure Kv where
  f : Option Nat
  cs : Array Value
def Kv.val (k : Kv) : Value := match k.f with
  | none => .nilFunc
  | some f => .func (.func f) #[] k.cs
def kvE : Enc Kv where
  k := 1
  enc x := [x.val]
  len _ := rfl
  one x u hu := by
    simp only [List.mem_cons, List.not_mem_nil, or_false] at hu
    subst hu
    unfold Kv.val
    split <;> rfl
  pos := by decide
/-- A node's keeper: what it is, in blocks from lo on, ahead of hi; it keeps z. -/
def Kp (w : World) (lo hi : Nat) (x : Nd) (z : Int) (v : Kv) : Prop :=
  (x.op = 9 → ∃ q, lo ≤ q ∧ q < hi ∧ v = ⟨some 48, #[Ptr q]⟩ ∧ IntB w q z) ∧
  (x.op = 10 → ∃ p q, lo ≤ p ∧ p < q ∧ q < hi ∧ v = ⟨some 50, #[Ptr q, Ptr p]⟩ ∧ IntB w q z ∧ IntB w p x.n) ∧
  (x.op = 11 → ∃ p q r, lo ≤ p ∧ p < q ∧ q < r ∧ r < hi ∧ v = ⟨some 51, #[Ptr r]⟩ ∧ IntB w q z ∧ IntB w p x.n ∧ w.heap[r]? = some (.cells #[.func (.func 50) #[] #[Ptr q, Ptr p]] 64 (0, 0))) ∧
  (x.op = 12 → ∃ q, lo ≤ q ∧ q < hi ∧ v = ⟨some 52, #[Ptr q]⟩ ∧ IntB w q z)
theorem Kp.but {S : Nat → Prop} {w w' : World} {lo hi : Nat} {x : Nd} {z : Int} {v : Kv} (h : Kp w lo hi x z v) (b : But S w w') (hn : ∀ k, lo ≤ k → k < hi → ¬ S k) : Kp w' lo hi x z v := by
  obtain ⟨h9, h10, h11, h12⟩ := h
  refine ⟨fun e => ?_, fun e => ?_, fun e => ?_, fun e => ?_⟩
  · obtain ⟨q, a1, a2, a3, a4⟩ := h9 e
    exact ⟨q, a1, a2, a3, a4.but b (hn q a1 a2)⟩
  · obtain ⟨p, q, a1, a2, a3, a4, a5, a6⟩ := h10 e
    exact ⟨p, q, a1, a2, a3, a4, a5.but b (hn q (by omega) a3), a6.but b (hn p a1 (by omega))⟩
  · obtain ⟨p, q, r, a1, a2, a3, a4, a5, a6, a7, a8⟩ := h11 e
    exact ⟨p, q, r, a1, a2, a3, a4, a5, a6.but b (hn q (by omega) (by omega)), a7.but b (hn p a1 (by omega)), (b.block r (blk_lt a8) (hn r (by omega) a4)).trans a8⟩
  · obtain ⟨q, a1, a2, a3, a4⟩ := h12 e
    exact ⟨q, a1, a2, a3, a4.but b (hn q a1 a2)⟩
theorem Kp.after {w w' : World} {lo hi : Nat} {x : Nd} {z : Int} {v : Kv} (h : Kp w lo hi x z v) (b : After w w') : Kp w' lo hi x z v := h.but b (fun _ _ _ t => t)
/-- The steps, node by node. -/
theorem Kp.step9 {w : World} {lo hi : Nat} {x : Nd} {z : Int} {v : Kv} (h : Kp w lo hi x z v) (e : x.op = 9) (a b : Bool) : ∃ q, v = ⟨some 48, #[Ptr q]⟩ ∧ lo ≤ q ∧ q < hi ∧ IntB w q z ∧
    Calls Try.prog 48 #[.bool a, .bool b, Ptr q] w fun r w' => r = .returned (.bool (ansK x z a b)) ∧ Kp w' lo hi x (nxtK x z a b) v ∧ But (One q) w w' := by
  obtain ⟨q, a1, a2, a3, a4⟩ := h.1 e
  refine ⟨q, a3, a1, a2, a4, (prev_step a4 a b).mono ?_⟩
  rintro r w' ⟨rfl, k1, k2⟩
  refine ⟨by unfold ansK; rw [if_pos e], ⟨fun _ => ⟨q, a1, a2, a3, by unfold nxtK; rw [if_pos e]; exact k1⟩, fun e' => by omega, fun e' => by omega, fun e' => by omega⟩, k2⟩
theorem Kp.step12 {w : World} {lo hi : Nat} {x : Nd} {z : Int} {v : Kv} (h : Kp w lo hi x z v) (e : x.op = 12) (a b : Bool) : ∃ q, v = ⟨some 52, #[Ptr q]⟩ ∧ lo ≤ q ∧ q < hi ∧ IntB w q z ∧
    Calls Try.prog 52 #[.bool a, .bool b, Ptr q] w fun r w' => r = .returned (.bool (ansK x z a b)) ∧ Kp w' lo hi x (nxtK x z a b) v ∧ But (One q) w w' := by
  obtain ⟨q, a1, a2, a3, a4⟩ := h.2.2.2 e
  refine ⟨q, a3, a1, a2, a4, (since_step a4 a b).mono ?_⟩
  rintro r w' ⟨rfl, k1, k2⟩
  refine ⟨by unfold ansK; rw [if_neg (by omega), if_neg (by omega), if_neg (by omega), if_pos e], ⟨fun e' => by omega, fun e' => by omega, fun e' => by omega, fun _ => ⟨q, a1, a2, a3, by unfold nxtK; rw [if_neg (by omega), if_neg (by omega), if_neg (by omega), if_pos e]; exact k1⟩⟩, k2⟩
theorem Kp.step10 {w : World} {lo hi : Nat} {x : Nd} {z : Int} {v : Kv} (h : Kp w lo hi x z v) (e : x.op = 10) (hz : 0 ≤ z ∧ z ≤ 64) (a b : Bool) : ∃ p q, v = ⟨some 50, #[Ptr q, Ptr p]⟩ ∧ lo ≤ q ∧ q < hi ∧ IntB w q z ∧
    Calls Try.prog 50 #[.bool a, .bool b, Ptr q, Ptr p] w fun r w' => r = .returned (.bool (ansK x z a b)) ∧ Kp w' lo hi x (nxtK x z a b) v ∧ But (One q) w w' := by
  obtain ⟨p, q, a1, a2, a3, a4, a5, a6⟩ := h.2.1 e
  refine ⟨p, q, a4, by omega, a3, a5, (once_step a5 a6 (by omega) hz a b).mono ?_⟩
  rintro r w' ⟨rfl, k1, k2⟩
  refine ⟨by unfold ansK; rw [if_neg (by omega), if_pos e], ⟨fun e' => by omega, fun _ => ⟨p, q, a1, a2, a3, a4, by unfold nxtK; rw [if_neg (by omega), if_pos e]; exact k1, a6.but k2 (fun h => by have : p = q := h; omega)⟩, fun e' => by omega, fun e' => by omega⟩, k2⟩
theorem Kp.step11 {w : World} {lo hi : Nat} {x : Nd} {z : Int} {v : Kv} (h : Kp w lo hi x z v) (e : x.op = 11) (hz : 0 ≤ z ∧ z ≤ 64) (a b : Bool) : ∃ q r, v = ⟨some 51, #[Ptr r]⟩ ∧ lo ≤ q ∧ q < hi ∧ IntB w q z ∧
    Calls Try.prog 51 #[.bool a, .bool b, Ptr r] w fun y w' => y = .returned (.bool (ansK x z a b)) ∧ Kp w' lo hi x (nxtK x z a b) v ∧ But (One q) w w' := by
  obtain ⟨p, q, r, a1, a2, a3, a4, a5, a6, a7, a8⟩ := h.2.2.1 e
  refine ⟨q, r, a5, by omega, by omega, a6, (hist_step a8 a6 a7 (by omega) hz a b).mono ?_⟩
  rintro y w' ⟨rfl, k1, k2⟩
  refine ⟨by unfold ansK; rw [if_neg (by omega), if_neg (by omega), if_pos e], ⟨fun e' => by omega, fun e' => by omega, fun _ => ⟨p, q, r, a1, a2, a3, a4, a5, by unfold nxtK; rw [if_neg (by omega), if_neg (by omega), if_pos e]; exact k1, a7.but k2 (fun h => by have : p = q := h; omega), (k2.block r (blk_lt a8) (fun h => by have : r = q := h; omega)).trans a8⟩, fun e' => by omega⟩, k2⟩
theorem prev_new (w : World) : Calls Try.prog 35 #[] w fun e w' => e = .returned (.func (.func 48) #[] #[Ptr w.heap.size]) ∧ IntB w' w.heap.size 0 ∧ After w w' ∧ w'.heap.size = w.heap.size + 1 := by
  go_enter Try.func35, Try.ntmps35
  go_wp2
  go_ret
  exact ⟨rfl, heap_alloc_new w _, After.rfl.alloc _, size_alloc _ _⟩
theorem since_new (w : World) : Calls Try.prog 38 #[] w fun e w' => e = .returned (.func (.func 52) #[] #[Ptr w.heap.size]) ∧ IntB w' w.heap.size 0 ∧ After w w' ∧ w'.heap.size = w.heap.size + 1 := by
  go_enter Try.func38, Try.ntmps38
  go_wp2
  go_ret
  exact ⟨rfl, heap_alloc_new w _, After.rfl.alloc _, size_alloc _ _⟩
theorem once_new (n : Int) (w : World) : Calls Try.prog 36 #[.int .i64 n] w fun e w' => e = .returned (.func (.func 50) #[] #[Ptr (w.heap.size + 1), Ptr w.heap.size]) ∧ IntB w' (w.heap.size + 1) 0 ∧ IntB w' w.heap.size n ∧ After w w' ∧ w'.heap.size = w.heap.size + 2 := by
  go_enter Try.func36, Try.ntmps36
  go_wp2
  go_ret
  refine ⟨rfl, ?_, new_blk (After.rfl.alloc _), (After.rfl.alloc _).alloc _, by simp⟩
  have := heap_alloc_new (w.alloc (.cells #[.int .i64 n] 3)) (.cells #[.int .i64 0] 3)
  rw [size_alloc] at this
  exact this
theorem hist_new (n : Int) (w : World) : Calls Try.prog 37 #[.int .i64 n] w fun e w' => e = .returned (.func (.func 51) #[] #[Ptr (w.heap.size + 2)]) ∧ IntB w' (w.heap.size + 1) 0 ∧ IntB w' w.heap.size n ∧ w'.heap[w.heap.size + 2]? = some (.cells #[.func (.func 50) #[] #[Ptr (w.heap.size + 1), Ptr w.heap.size]] 64 (0, 0)) ∧ After w w' ∧ w'.heap.size = w.heap.size + 3 := by
  have HO := hideIt (once_new n w)
  go_enter Try.func37, Try.ntmps37
  go_wp2_with (go_at_call 36; refine HO.out.mono ?_; rintro e w1 ⟨rfl, k1, k2, k3, k4⟩; have HK := hideIt (And.intro k1 (And.intro k2 (And.intro k3 k4))); clear k1 k2 k3 k4)
  go_ret
  obtain ⟨k1, k2, k3, k4⟩ := HK.out
  rw [k4]
  refine ⟨rfl, k1.but (After.rfl.alloc _) (fun t => t), k2.but (After.rfl.alloc _) (fun t => t), ?_, k3.alloc _, by rw [size_alloc, k4]⟩
  rw [← k4]
  exact heap_alloc_new w1 _
theorem keeperOf_any (x : Nd) (w : World) : Calls Try.prog 26 #[x.val] w fun e w' => ∃ v : Kv, e = .returned (.agg #[v.val]) ∧ Kp w' w.heap.size w'.heap.size x 0 v ∧ After w w' := by
  obtain ⟨op, a, b, n⟩ := x
  unfold Nd.val
  obtain ⟨W2, hW2⟩ : ∃ W2, W2 = (w.alloc (.cells #[.int .i64 op, .int .i64 a, .int .i64 b, .int .i64 n] 38)).alloc (.cells #[.nilFunc] 66) := ⟨_, rfl⟩
  have HW := hideIt hW2
  have HA : Hid (After w W2) := hideIt (by rw [hW2]; exact (After.rfl.alloc _).alloc _)
  have HS : Hid (W2.heap.size = w.heap.size + 2) := hideIt (by rw [hW2]; simp)
  have kG : W2.heap[w.heap.size + 1]? = some (.cells #[.nilFunc] 66 (0, 0)) := by
    have := heap_alloc_new (w.alloc (.cells #[.int .i64 op, .int .i64 a, .int .i64 b, .int .i64 n] 38)) (.cells #[.nilFunc] 66)
    rw [size_alloc] at this
    rw [hW2]
    exact this
  clear hW2
  by_cases h9 : op = 9
  · subst h9
    have HP := hideIt (prev_new W2)
    go_enter Try.func26, Try.ntmps26
    go_wp2_with fail
    rw [← HW.out]
    refine HP.out.mono ?_
    rintro e w1 ⟨rfl, hk⟩
    obtain ⟨kI, kA, kS⟩ := hk
    have g0 : w1.cell? ⟨w.heap.size + 1, 0, none⟩ = some .nilFunc := (kA.cell (blk_lt kG) 0).trans (blk_cell kG (i := 0) rfl)
    have g1 := (kA.block _ (blk_lt kG) (fun t => t)).trans kG
    have g2 := blk_lt g1
    have g3 := blk_soft g1 0
    have HK := hideIt (And.intro kI (And.intro kA (And.intro kS g1)))
    clear kI kA kS g1
    go_wp2_with fail
    have c9 : (w1.setCell ⟨w.heap.size + 1, 0, none⟩ (.func (.func 48) #[] #[Ptr W2.heap.size])).cell? ⟨w.heap.size + 1, 0, none⟩ = some (.func (.func 48) #[] #[Ptr W2.heap.size]) := blk_cell (blk_put HK.out.2.2.2 0 _) rfl
    refine bodyPost_ret (v := .agg #[.func (.func 48) #[] #[Ptr W2.heap.size]]) (by simp [results, Try.results26, go_sem, c9]) rfl ?_
    obtain ⟨kI, kA, kS, g1⟩ := HK.out
    have b9 := but_one w1 (w.heap.size + 1) 0 (.func (.func 48) #[] #[Ptr W2.heap.size])
    refine ⟨⟨some 48, #[Ptr W2.heap.size]⟩, rfl, ?_, (HA.out.trans kA).then b9 (fun i hi h => by have : i = w.heap.size + 1 := h; omega)⟩
    have hs : w1.heap.size ≤ (w1.setCell ⟨w.heap.size + 1, 0, none⟩ (.func (.func 48) #[] #[Ptr W2.heap.size])).heap.size := b9.size
    refine ⟨fun _ => ⟨W2.heap.size, by have := HS.out; omega, by have := HS.out; omega, rfl, kI.but b9 (fun h => by have h' : W2.heap.size = w.heap.size + 1 := h; have := HS.out; omega)⟩, fun e => absurd e (by show ¬ (9 : Int) = 10; decide), fun e => absurd e (by show ¬ (9 : Int) = 11; decide), fun e => absurd e (by show ¬ (9 : Int) = 12; decide)⟩
  by_cases h10 : op = 10
  · subst h10
    have HP := hideIt (once_new n W2)
    go_enter Try.func26, Try.ntmps26
    go_wp2_with fail
    rw [← HW.out]
    refine HP.out.mono ?_
    rintro e w1 ⟨rfl, hk⟩
    obtain ⟨kI, kJ, kA, kS⟩ := hk
    have g0 : w1.cell? ⟨w.heap.size + 1, 0, none⟩ = some .nilFunc := (kA.cell (blk_lt kG) 0).trans (blk_cell kG (i := 0) rfl)
    have g1 := (kA.block _ (blk_lt kG) (fun t => t)).trans kG
    have g2 := blk_lt g1
    have g3 := blk_soft g1 0
    have HK := hideIt (And.intro (And.intro kI kJ) (And.intro kA (And.intro kS g1)))
    clear kI kJ kA kS g1
    go_wp2_with fail
    have c9 : (w1.setCell ⟨w.heap.size + 1, 0, none⟩ (.func (.func 50) #[] #[Ptr (W2.heap.size + 1), Ptr W2.heap.size])).cell? ⟨w.heap.size + 1, 0, none⟩ = some (.func (.func 50) #[] #[Ptr (W2.heap.size + 1), Ptr W2.heap.size]) := blk_cell (blk_put HK.out.2.2.2 0 _) rfl
    refine bodyPost_ret (v := .agg #[.func (.func 50) #[] #[Ptr (W2.heap.size + 1), Ptr W2.heap.size]]) (by simp [results, Try.results26, go_sem, c9]) rfl ?_
    obtain ⟨⟨kI, kJ⟩, kA, kS, g1⟩ := HK.out
    have b9 := but_one w1 (w.heap.size + 1) 0 (.func (.func 50) #[] #[Ptr (W2.heap.size + 1), Ptr W2.heap.size])
    refine ⟨⟨some 50, #[Ptr (W2.heap.size + 1), Ptr W2.heap.size]⟩, rfl, ?_, (HA.out.trans kA).then b9 (fun i hi h => by have : i = w.heap.size + 1 := h; omega)⟩
    have hs : w1.heap.size ≤ (w1.setCell ⟨w.heap.size + 1, 0, none⟩ (.func (.func 50) #[] #[Ptr (W2.heap.size + 1), Ptr W2.heap.size])).heap.size := b9.size
    refine ⟨fun e => absurd e (by show ¬ (10 : Int) = 9; decide), fun _ => ⟨W2.heap.size, W2.heap.size + 1, by have := HS.out; omega, by omega, by have := HS.out; omega, rfl, kI.but b9 (fun h => by have h' : W2.heap.size + 1 = w.heap.size + 1 := h; have := HS.out; omega), kJ.but b9 (fun h => by have h' : W2.heap.size = w.heap.size + 1 := h; have := HS.out; omega)⟩, fun e => absurd e (by show ¬ (10 : Int) = 11; decide), fun e => absurd e (by show ¬ (10 : Int) = 12; decide)⟩
  by_cases h11 : op = 11
  · subst h11
    have HP := hideIt (hist_new n W2)
    go_enter Try.func26, Try.ntmps26
    go_wp2_with fail
    rw [← HW.out]
    refine HP.out.mono ?_
    rintro e w1 ⟨rfl, hk⟩
    obtain ⟨kI, kJ, kR, kA, kS⟩ := hk
    have g0 : w1.cell? ⟨w.heap.size + 1, 0, none⟩ = some .nilFunc := (kA.cell (blk_lt kG) 0).trans (blk_cell kG (i := 0) rfl)
    have g1 := (kA.block _ (blk_lt kG) (fun t => t)).trans kG
    have g2 := blk_lt g1
    have g3 := blk_soft g1 0
    have HK := hideIt (And.intro (And.intro kI (And.intro kJ kR)) (And.intro kA (And.intro kS g1)))
    clear kI kJ kR kA kS g1
    go_wp2_with fail
    have c9 : (w1.setCell ⟨w.heap.size + 1, 0, none⟩ (.func (.func 51) #[] #[Ptr (W2.heap.size + 2)])).cell? ⟨w.heap.size + 1, 0, none⟩ = some (.func (.func 51) #[] #[Ptr (W2.heap.size + 2)]) := blk_cell (blk_put HK.out.2.2.2 0 _) rfl
    refine bodyPost_ret (v := .agg #[.func (.func 51) #[] #[Ptr (W2.heap.size + 2)]]) (by simp [results, Try.results26, go_sem, c9]) rfl ?_
    obtain ⟨⟨kI, kJ, kR⟩, kA, kS, g1⟩ := HK.out
    have b9 := but_one w1 (w.heap.size + 1) 0 (.func (.func 51) #[] #[Ptr (W2.heap.size + 2)])
    refine ⟨⟨some 51, #[Ptr (W2.heap.size + 2)]⟩, rfl, ?_, (HA.out.trans kA).then b9 (fun i hi h => by have : i = w.heap.size + 1 := h; omega)⟩
    have hs : w1.heap.size ≤ (w1.setCell ⟨w.heap.size + 1, 0, none⟩ (.func (.func 51) #[] #[Ptr (W2.heap.size + 2)])).heap.size := b9.size
    refine ⟨fun e => absurd e (by show ¬ (11 : Int) = 9; decide), fun e => absurd e (by show ¬ (11 : Int) = 10; decide), fun _ => ⟨W2.heap.size, W2.heap.size + 1, W2.heap.size + 2, by have := HS.out; omega, by omega, by omega, by have := HS.out; omega, rfl, kI.but b9 (fun h => by have h' : W2.heap.size + 1 = w.heap.size + 1 := h; have := HS.out; omega), kJ.but b9 (fun h => by have h' : W2.heap.size = w.heap.size + 1 := h; have := HS.out; omega), (b9.block _ (blk_lt kR) (fun h => by have h' : W2.heap.size + 2 = w.heap.size + 1 := h; have := HS.out; omega)).trans kR⟩, fun e => absurd e (by show ¬ (11 : Int) = 12; decide)⟩
  by_cases h12 : op = 12
  · subst h12
    have HP := hideIt (since_new W2)
    go_enter Try.func26, Try.ntmps26
    go_wp2_with fail
    rw [← HW.out]
    refine HP.out.mono ?_
    rintro e w1 ⟨rfl, hk⟩
    obtain ⟨kI, kA, kS⟩ := hk
    have g0 : w1.cell? ⟨w.heap.size + 1, 0, none⟩ = some .nilFunc := (kA.cell (blk_lt kG) 0).trans (blk_cell kG (i := 0) rfl)
    have g1 := (kA.block _ (blk_lt kG) (fun t => t)).trans kG
    have g2 := blk_lt g1
    have g3 := blk_soft g1 0
    have HK := hideIt (And.intro kI (And.intro kA (And.intro kS g1)))
    clear kI kA kS g1
    go_wp2_with fail
    have c9 : (w1.setCell ⟨w.heap.size + 1, 0, none⟩ (.func (.func 52) #[] #[Ptr W2.heap.size])).cell? ⟨w.heap.size + 1, 0, none⟩ = some (.func (.func 52) #[] #[Ptr W2.heap.size]) := blk_cell (blk_put HK.out.2.2.2 0 _) rfl
    refine bodyPost_ret (v := .agg #[.func (.func 52) #[] #[Ptr W2.heap.size]]) (by simp [results, Try.results26, go_sem, c9]) rfl ?_
    obtain ⟨kI, kA, kS, g1⟩ := HK.out
    have b9 := but_one w1 (w.heap.size + 1) 0 (.func (.func 52) #[] #[Ptr W2.heap.size])
    refine ⟨⟨some 52, #[Ptr W2.heap.size]⟩, rfl, ?_, (HA.out.trans kA).then b9 (fun i hi h => by have : i = w.heap.size + 1 := h; omega)⟩
    have hs : w1.heap.size ≤ (w1.setCell ⟨w.heap.size + 1, 0, none⟩ (.func (.func 52) #[] #[Ptr W2.heap.size])).heap.size := b9.size
    refine ⟨fun e => absurd e (by show ¬ (12 : Int) = 9; decide), fun e => absurd e (by show ¬ (12 : Int) = 10; decide), fun e => absurd e (by show ¬ (12 : Int) = 11; decide), fun _ => ⟨W2.heap.size, by have := HS.out; omega, by have := HS.out; omega, rfl, kI.but b9 (fun h => by have h' : W2.heap.size = w.heap.size + 1 := h; have := HS.out; omega)⟩⟩
  have e9 : (op == 9) = false := by simp [h9]
  have e10 : (op == 10) = false := by simp [h10]
  have e11 : (op == 11) = false := by simp [h11]
  have e12 : (op == 12) = false := by simp [h12]
  have HN := hideIt (And.intro h9 (And.intro h10 (And.intro h11 h12)))
  clear h9 h10 h11 h12 kG
  go_enter Try.func26, Try.ntmps26
  go_wp2_with fail
  refine bodyPost_ret (v := .agg #[.nilFunc]) (by simp [results, Try.results26, go_sem]) rfl ?_
  obtain ⟨h9, h10, h11, h12⟩ := HN.out
  exact ⟨⟨none, #[]⟩, rfl, ⟨fun e => absurd e h9, fun e => absurd e h10, fun e => absurd e h11, fun e => absurd e h12⟩, (After.rfl.alloc _).alloc _⟩
end Go.Proofs.Ythgmjeljjladhaa
