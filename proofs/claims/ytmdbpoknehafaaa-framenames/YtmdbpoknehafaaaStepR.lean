/-
  step of the document's deframer.
-/
import Derived.Test.YtmdbpoknehafaaaLook
import Derived.Test.YtmdbpoknehafaaaRef
namespace Go.Proofs.Ytmdbpoknehafaaa
open Go.RowKit
/-- What step answers. -/
def StepTo (w : World) (zs : List Int) (e : Ending) (w' : World) : Prop :=
  ∃ v, e = .returned (.tuple #[.int .i64 (goneOf zs : Nat), v]) ∧ (kindOf zs ≠ 2 → v = .slice none 0 0) ∧ (kindOf zs = 2 → w'.ownsRow w.heap.size 5 1 v (lenOf zs) (u8s (bodyOf zs))) ∧ After w w'
theorem step_none {w w' : World} {zs : List Int} {k : Nat} (hk : kindOf zs = k) (h2 : k ≠ 2) (ha : After w w') : StepTo w zs (.returned (.tuple #[.int .i64 (k : Nat), .slice none 0 0])) w' := by
  have hl := kind_lt zs
  refine ⟨_, ?_, fun _ => rfl, fun h => absurd h (by omega), ha⟩
  have e : goneOf zs = k := by
    unfold goneOf
    by_cases h0 : k = 0
    · rw [if_pos (by omega), h0]
    · rw [if_neg (by omega), if_pos (by omega)]; omega
  rw [e]
set_option maxRecDepth 100000 in
set_option maxHeartbeats 400000 in
theorem step_sum (b off n c m sd du x1 x2 x3 x4 : Nat) (w : World) (c0 : w.cell? ⟨b, off, none⟩ = some (.int .u8 126)) (c1 : w.cell? ⟨b, off + 1, none⟩ = some (.int .u8 x1)) (c2 : w.cell? ⟨b, off + 2, none⟩ = some (.int .u8 x2))
    (c3 : w.cell? ⟨b, off + (m + 3), none⟩ = some (.int .u8 x3)) (c4 : w.cell? ⟨b, off + (m + 4), none⟩ = some (.int .u8 x4))
    (ho : (x1 : Int) * 256 + (x2 : Int) = (m : Int)) (hs : (x3 : Int) * 256 + (x4 : Int) = (sd : Int)) (hc : n ≤ c) (hn : n ≤ 140737488355328) (l1 : x1 < 256) (l2 : x2 < 256) (l3 : x3 < 256) (l4 : x4 < 256) (l5 : du < 65536) (d3 : 1 ≤ m) (d4 : m ≤ 256) (d5 : m + 5 ≤ n) (body : List Int)
    (HS : Hid (∀ W, After w W → Calls Try.prog 30 #[.slice (some ⟨b, off + 1, none⟩) (m + 2) (c - 1)] W fun e w' => e = .returned (.int .u16 (du : Nat)) ∧ w' = W))
    (HC : Hid (∀ W, After w W → Calls Try.prog 11 #[.slice (some ⟨b, off + 3, none⟩) m (c - 3)] W fun e w' => ∃ v, e = .returned v ∧ w'.ownsRow W.heap.size 5 1 v m (u8s body) ∧ After W w')) :
    Calls Try.prog 27 #[.slice (some ⟨b, off, none⟩) n c] w fun e w' => (sd ≠ du → e = .returned (.tuple #[.int .i64 1, .slice none 0 0])) ∧ (sd = du → ∃ v, e = .returned (.tuple #[.int .i64 ((m + 5 : Nat) : Int), v]) ∧ w'.ownsRow w.heap.size 5 1 v m (u8s body)) ∧ After w w' := by
  obtain ⟨p, hp⟩ : ∃ p, p = m + 3 := ⟨_, rfl⟩
  obtain ⟨q, hq⟩ : ∃ q, q = m + 4 := ⟨_, rfl⟩
  obtain ⟨r, hr⟩ : ∃ r, r = m + 5 := ⟨_, rfl⟩
  obtain ⟨t, ht⟩ : ∃ t, t = m + 2 := ⟨_, rfl⟩
  rw [← hp] at c3
  rw [← hq] at c4
  rw [← hr]
  rw [← ht] at HS
  have q1 : (m : Int) + 3 = (p : Int) := by omega
  have q2 : (m : Int) + 4 = (q : Int) := by omega
  have q3 : (m : Int) + 5 = (r : Int) := by omega
  have q4 : (p : Int) - 1 = (t : Int) := by omega
  have q5 : ¬ c = 1 := by omega
  have q6 : (p : Int) ≤ (c : Int) := by omega
  have q7 : ¬ c = 3 := by omega
  have q8 : (r : Int) ≤ (n : Int) := by omega
  have q9 : (1 : Int) ≤ (p : Int) := by omega
  have q10 : p - 1 = t := by omega
  have q11 : (p : Int) < (n : Int) := by omega
  have q12 : (q : Int) < (n : Int) := by omega
  have q13 : (3 : Int) ≤ (p : Int) := by omega
  have q14 : p - 3 = m := by omega
  have q15 : (3 : Int) ≤ (n : Int) := by omega
  have hn0 : ((n : Int) == 0) = false := by simp; omega
  have q16 : r ≤ 300 ∧ q ≤ 300 ∧ p ≤ 300 := by omega
  have qa : IntKind.i64.wrap (p : Int) = (p : Int) := by rw [IntKind.wrap_i64]; omega
  have qb : IntKind.i64.wrap (q : Int) = (q : Int) := by rw [IntKind.wrap_i64]; omega
  have qc : IntKind.i64.wrap (sd : Int) = (sd : Int) := by rw [IntKind.wrap_i64]; omega
  have qd : IntKind.i64.wrap ((x3 : Int) * 256) = (x3 : Int) * 256 := by rw [IntKind.wrap_i64]; omega
  clear hp hq hr ht
  go_enter Try.func27, Try.ntmps27
  go_wp2_with fail
  go_quiet (fail)
  have A0 := hideIt (After.draws (After.rfl (w := w)) nq)
  have c3' : (w.drewN nq).cell? ⟨b, off + p, none⟩ = some (.int .u8 x3) := c3
  have c4' : (w.drewN nq).cell? ⟨b, off + q, none⟩ = some (.int .u8 x4) := c4
  clear ho q15 c0 c1 c2 l1 l2 c3 c4
  generalize w.drewN nq = W0 at *
  go_wp2_with fail
  have Q3 := hideIt q3
  clear q8 q3
  go_quiet ((go_at_call 30; exact Calls.quiet_of_same (HS.out _ (A0.out.draws _))))
  have A1 := hideIt (A0.out.draws nq)
  clear c3' c4' q2 q4 q5 q9 q10 q11 q12 qb qc qd hs l3 l4 l5 HS A0
  generalize W0.drewN nq = W1 at *
  have q3 := Q3.out
  by_cases e : sd = du
  · subst e
    have HC1 := hideIt (HC.out W1 A1.out)
    go_wp2_with fail
    refine HC1.out.mono ?_
    rintro e w2 ⟨v, rfl, o2, a2⟩
    have O2 := hideIt (own_base o2 (C := w.heap.size) (fun j hj => by have h1 := (o2.lt j hj).1; have h2 := A1.out.size; omega))
    have A2 := hideIt (A1.out.trans a2)
    clear o2 a2
    go_wp2
    go_ret2
    exact ⟨⟨_, rfl, O2.out⟩, A2.out⟩
  · have e2 : ¬ (du : Int) = (sd : Int) := by omega
    have E := hideIt e
    clear e
    go_wp2
    go_ret2
    exact ⟨fun _ => rfl, fun h => absurd h E.out, A1.out⟩
set_option maxRecDepth 100000 in
set_option maxHeartbeats 400000 in
theorem step_any (a : Option Addr) (n c : Nat) (zs : List Int) (w : World) (hr : Row w a n zs) (hc : n ≤ c) (hn : n ≤ 140737488355328) :
    Calls Try.prog 27 #[.slice a n c] w fun e w' => StepTo w zs e w' := by
  have hl := hr.1
  by_cases d0 : n = 0
  · subst d0
    have hk : kindOf zs = 0 := by unfold kindOf; rw [if_pos (by omega)]
    have HK := hideIt hk
    clear hr hl hk
    go_enter Try.func27, Try.ntmps27
    go_wp2
    go_ret2
    exact step_none HK.out (by decide) After.rfl
  obtain ⟨b, off, x0, rfl, _, l0, z0, c0⟩ := hr.at (i := 0) (by omega)
  rw [Nat.add_zero] at c0
  have hn0 : ((n : Int) == 0) = false := by simp; omega
  by_cases d1 : x0 = 126
  · subst d1
    by_cases d2 : n < 3
    · have hk : kindOf zs = 0 := by unfold kindOf; rw [if_neg (by omega), if_neg (by rw [z0]; simp), if_pos (by omega)]
      have HK := hideIt hk
      clear hr hk l0 z0 hl
      go_enter Try.func27, Try.ntmps27
      go_wp2
      go_ret2
      exact step_none HK.out (by decide) After.rfl
    · obtain ⟨x1, x2, l1, l2, c1, c2, he⟩ := front hr (by omega)
      have ho : (x1 : Int) * 256 + (x2 : Int) = (lenOf zs : Nat) := by omega
      have hle : lenOf zs < 65536 := by omega
      by_cases d3 : lenOf zs < 1 ∨ 256 < lenOf zs
      · have hk : kindOf zs = 1 := by unfold kindOf; rw [if_neg (by omega), if_neg (by rw [z0]; simp), if_neg (by omega), if_pos d3]
        have HK := hideIt hk
        generalize lenOf zs = m at *
        clear hr hk l0 z0 hl he
        go_enter Try.func27, Try.ntmps27
        go_wp2_with fail
        go_quiet (fail)
        rcases d3 with d3 | d3
        · obtain rfl : m = 0 := by omega
          go_wp2
          go_ret2
          exact step_none HK.out (by decide) (After.rfl.draws _)
        · go_wp2
          go_ret2
          exact step_none HK.out (by decide) (After.rfl.draws _)
      · by_cases d4 : n < lenOf zs + 5
        · have hk : kindOf zs = 0 := by unfold kindOf; rw [if_neg (by omega), if_neg (by rw [z0]; simp), if_neg (by omega), if_neg d3, if_pos (by omega)]
          have HK := hideIt hk
          generalize lenOf zs = m at *
          clear hr hk l0 z0 hl he
          go_enter Try.func27, Try.ntmps27
          go_wp2_with fail
          go_quiet (fail)
          go_wp2
          go_ret2
          exact step_none HK.out (by decide) (After.rfl.draws _)
        · have hr1 := (hr.drop (k := 1) (by omega)).take (k := lenOf zs + 2) (by omega)
          have hr2 := (hr.drop (k := 3) (by omega)).take (k := lenOf zs) (by omega)
          obtain ⟨b3, o3, x3, e3, _, l3, z3, c3⟩ := hr.at (i := lenOf zs + 3) (by omega)
          obtain ⟨b4, o4, x4, e4, _, l4, z4, c4⟩ := hr.at (i := lenOf zs + 4) (by omega)
          cases e3
          cases e4
          have hs : (x3 : Int) * 256 + (x4 : Int) = (saidOf zs : Nat) := by
            unfold saidOf; rw [z3, z4]; simp
          have hk : kindOf zs = if dueOf zs ≠ saidOf zs then 1 else 2 := by unfold kindOf; rw [if_neg (by omega), if_neg (by rw [z0]; simp), if_neg (by omega), if_neg d3, if_neg (by omega)]
          have l5 : dueOf zs < 65536 := sum16_lt hr1.2.1
          refine (step_sum b off n c (lenOf zs) (saidOf zs) (dueOf zs) x1 x2 x3 x4 w c0 c1 c2 c3 c4 ho hs hc hn l1 l2 l3 l4 l5 (by omega) (by omega) (by omega) (bodyOf zs)
            (fun W ha => refSum16_any _ _ _ _ W (hr1.after ha) (by omega)) (fun W ha => copy_any _ _ _ _ W (hr2.after ha) (fun h => by cases h) (by omega))).mono ?_
          rintro e w' ⟨h1, h2, h3⟩
          by_cases q : saidOf zs = dueOf zs
          · obtain ⟨v, rfl, o⟩ := h2 q
            have k2 : kindOf zs = 2 := by rw [hk, if_neg (by simp [q])]
            refine ⟨v, ?_, fun h => absurd k2 h, fun _ => o, h3⟩
            unfold goneOf
            rw [if_neg (by omega), if_neg (by omega)]
          · have k1 : kindOf zs = 1 := by rw [hk, if_pos (Ne.symm q)]
            rw [h1 q]
            exact step_none k1 (by decide) h3
  · have hk : kindOf zs = 1 := by unfold kindOf; rw [if_neg (by omega), if_pos (by rw [z0]; omega)]
    have HK := hideIt hk
    have d1i : ¬ (x0 : Int) = 126 := by omega
    clear hr hk l0 z0 hl
    go_enter Try.func27, Try.ntmps27
    go_wp2
    go_ret2
    exact step_none HK.out (by decide) After.rfl
end Go.Proofs.Ytmdbpoknehafaaa
