/-
  Package block: isNone, check, hasSector, Sectors, Dead, Arm, Crash, powerLasts, first.
-/
import Derived.Test.YtalffdiohjcajaaDbA
import Derived.Deep.QuietTactic
import Derived.BigQuiet
namespace Go.Proofs.Ytalffdiohjcajaa
open Go.RowKit
set_option maxRecDepth 8000
theorem dvNone_no {w : World} {d g m : Nat} {L : Int} {x : Dv} (h : DvL w d g m L x) : Calls Try.prog 36 #[Ptr d] w fun e w' => e = .returned (.bool false) ∧ w' = w := by
  have c := h.c0
  have hn : (((x.n : Nat) : Int) == 0) = false := by
    have := h.ok.n0
    simp
    omega
  clear h
  generalize x.n = n at *
  go_enter Try.func36, Try.ntmps36
  go_wp2
  go_ret
  exact ⟨rfl, rfl⟩
theorem dvCheck {w : World} {d g m : Nat} {L : Int} {x : Dv} (h : DvL w d g m L x) : Calls Try.prog 33 #[Ptr d] w fun e w' => e = .returned (.int .i64 x.chk) ∧ w' = w := by
  have c := h.c3
  have HN := hideIt (dvNone_no h)
  clear h
  unfold Dv.chk
  cases hd : x.dead with
  | true =>
    rw [hd] at c
    go_enter Try.func33, Try.ntmps33
    go_wp2_with (go_at_call 36; refine HN.out.mono ?_; rintro e w' ⟨rfl, rfl⟩)
    go_ret
    exact ⟨rfl, rfl⟩
  | false =>
    rw [hd] at c
    go_enter Try.func33, Try.ntmps33
    go_wp2_with (go_at_call 36; refine HN.out.mono ?_; rintro e w' ⟨rfl, rfl⟩)
    go_ret
    exact ⟨rfl, rfl⟩
def hasB (x : Dv) (i : Int) : Bool := decide (0 ≤ i ∧ i < x.n)
theorem dvHas {w : World} {d g m : Nat} {L : Int} {x : Dv} (h : DvL w d g m L x) (i : Int) : Calls Try.prog 34 #[Ptr d, .int .i64 i] w fun e w' => e = .returned (.bool (hasB x i)) ∧ w' = w := by
  have c := h.c0
  clear h
  unfold hasB
  by_cases h0 : i < 0
  · rw [show decide (0 ≤ i ∧ i < x.n) = false from decide_eq_false (by omega)]
    generalize x.n = n at *
    have h1 : ¬ 0 ≤ i := by omega
    go_enter Try.func34, Try.ntmps34
    go_wp2
    go_ret
    exact ⟨rfl, rfl⟩
  · have h1 : 0 ≤ i := by omega
    by_cases h2 : i < x.n
    · rw [show decide (0 ≤ i ∧ i < x.n) = true from decide_eq_true ⟨h1, h2⟩]
      generalize x.n = n at *
      go_enter Try.func34, Try.ntmps34
      go_wp2
      go_ret
      exact ⟨rfl, rfl⟩
    · rw [show decide (0 ≤ i ∧ i < x.n) = false from decide_eq_false (by omega)]
      generalize x.n = n at *
      go_enter Try.func34, Try.ntmps34
      go_wp2
      go_ret
      exact ⟨rfl, rfl⟩
theorem dvSectors {w : World} {d g m : Nat} {x : Dv} (h : DvX w d g m x) : Calls Try.prog 21 #[Ptr d] w fun e w' => e = .returned (.int .i64 (x.n : Nat)) ∧ w' = w := by
  obtain ⟨L, h⟩ := h
  have c := h.c0
  clear h
  generalize x.n = n at *
  go_enter Try.func21, Try.ntmps21
  go_wp2
  go_ret
  exact ⟨rfl, rfl⟩
theorem dvDead {w : World} {d g m : Nat} {x : Dv} (h : DvX w d g m x) : Calls Try.prog 16 #[Ptr d] w fun e w' => e = .returned (.bool x.dead) ∧ w' = w := by
  obtain ⟨L, h⟩ := h
  have c := h.c3
  clear h
  generalize x.dead = q at *
  go_enter Try.func16, Try.ntmps16
  go_wp2
  go_ret
  exact ⟨rfl, rfl⟩
theorem dvArm {w : World} {d g m : Nat} {x : Dv} (h : DvX w d g m x) (n : Int) (h0 : -9223372036854775808 ≤ n) (h1 : n ≤ 9223372036854775807) : Calls Try.prog 19 #[Ptr d, .int .i64 n] w fun e w' => e = .returned (.int .i64 x.chk) ∧ DvX w' d g m (x.armS n) ∧ But (One d) w w' := by
  obtain ⟨L, h⟩ := h
  have c := h.c2
  have f := blk_soft h.at0 2
  have HN := dvCheck h
  have H := hideIt h
  clear h
  cases hd : x.dead with
  | true =>
    have hc : x.chk = 220 := by unfold Dv.chk; rw [hd]; rfl
    have hs : x.armS n = x := by unfold Dv.armS; rw [hd]; rfl
    rw [hc] at HN ⊢
    rw [hs]
    clear hc hs hd
    go_enter Try.func19, Try.ntmps19
    go_wp2_with (go_at_call 33; refine HN.mono ?_; rintro e w' ⟨rfl, rfl⟩)
    go_ret
    exact ⟨rfl, ⟨L, H.out⟩, But.rfl⟩
  | false =>
    have hc : x.chk = 0 := by unfold Dv.chk; rw [hd]; rfl
    have HS := hideIt (show x.armS n = { x with left := lim n } by unfold Dv.armS lim; rw [hd]; rfl)
    rw [hc] at HN ⊢
    clear hc hd
    go_enter Try.func19, Try.ntmps19
    go_wp2_with (go_at_call 33; refine HN.mono ?_; rintro e w' ⟨rfl, rfl⟩)
    go_ret
    exact ⟨rfl, ⟨n, HS.out ▸ H.out.setL rfl h0 h1⟩, but_one _ _ _ _⟩
theorem dvCrash {w : World} {d g m : Nat} {x : Dv} (h : DvX w d g m x) : Calls Try.prog 15 #[Ptr d] w fun e w' => e = .returned (.int .i64 x.chk) ∧ DvX w' d g m x.die ∧ But (One d) w w' := by
  obtain ⟨L, h⟩ := h
  have c := h.c3
  have f := blk_soft h.at0 3
  have HN := dvCheck h
  have H := hideIt h
  clear h
  cases hd : x.dead with
  | true =>
    have hc : x.chk = 220 := by unfold Dv.chk; rw [hd]; rfl
    have HS := hideIt (show x.die = x by unfold Dv.die; rw [← hd])
    rw [hc] at HN ⊢
    clear hc hd c f
    go_enter Try.func15, Try.ntmps15
    go_wp2_with (go_at_call 33; refine HN.mono ?_; rintro e w' ⟨rfl, rfl⟩)
    go_ret
    exact ⟨rfl, ⟨L, by rw [HS.out]; exact H.out⟩, But.rfl⟩
  | false =>
    have hc : x.chk = 0 := by unfold Dv.chk; rw [hd]; rfl
    rw [hc] at HN ⊢
    clear hc hd
    go_enter Try.func15, Try.ntmps15
    go_wp2_with (go_at_call 33; refine HN.mono ?_; rintro e w' ⟨rfl, rfl⟩)
    go_ret
    exact ⟨rfl, ⟨L, H.out.setQ true⟩, but_one _ _ _ _⟩
/-- Does one more operation go? -/
theorem dvPower {w : World} {d g m : Nat} {L : Int} {x : Dv} (h : DvL w d g m L x) (hd : x.dead = false) : Calls Try.prog 35 #[Ptr d] w fun e w' => e = .returned (.bool (decide (x.left ≠ 0))) ∧ (∃ L', DvL w' d g m L' x.go) ∧ But (One d) w w' := by
  have c2 := h.c2
  have c3 := h.c3
  rw [hd] at c3
  have f2 := blk_soft h.at0 2
  have f3 := blk_soft h.at0 3
  have hlm := h.lm
  have b0 := h.l0
  have b1 := h.l1
  have H := hideIt h
  clear h
  unfold lim at hlm
  by_cases e0 : L = 0
  · subst e0
    have hl : x.left = 0 := by rw [← hlm]; rfl
    have HG := hideIt (show x.go = { x with dead := true } by unfold Dv.go; rw [if_pos hl])
    rw [show decide (x.left ≠ 0) = false by rw [hl]; rfl]
    clear hl hlm hd
    go_enter Try.func35, Try.ntmps35
    go_wp2
    go_ret
    exact ⟨rfl, ⟨0, by rw [HG.out]; exact H.out.setQ true⟩, but_one _ _ _ _⟩
  · by_cases e1 : 0 < L
    · have hl : x.left = L := by rw [← hlm, if_neg (by omega)]
      have HG := hideIt (show x.go = { x with left := L - 1 } by unfold Dv.go; rw [hl, if_neg e0, if_pos e1])
      rw [show decide (x.left ≠ 0) = true by rw [hl]; exact decide_eq_true e0]
      have e2 : (L == 0) = false := by simpa using e0
      have HL := hideIt (show lim (L - 1) = L - 1 by unfold lim; rw [if_neg (by omega)])
      have hw : IntKind.i64.wrap (L - 1) = L - 1 := by rw [IntKind.wrap_i64]; omega
      clear hl hlm hd
      go_enter Try.func35, Try.ntmps35
      go_wp2
      go_ret
      exact ⟨rfl, ⟨L - 1, by rw [HG.out]; exact H.out.setL HL.out (by omega) (by omega)⟩, but_one _ _ _ _⟩
    · have hl : x.left = -1 := by rw [← hlm, if_pos (by omega)]
      have HG := hideIt (show x.go = x by unfold Dv.go; rw [hl]; rfl)
      rw [show decide (x.left ≠ 0) = true by rw [hl]; rfl]
      have e2 : (L == 0) = false := by simpa using e0
      clear hl hlm hd
      go_enter Try.func35, Try.ntmps35
      go_wp2
      go_ret
      exact ⟨rfl, ⟨L, by rw [HG.out]; exact H.out⟩, But.rfl⟩
/-- The next choice. -/
theorem first_no (w : World) (a : Option Addr) (c : Nat) : Calls Try.prog 37 #[.slice a 0 c] w fun e w' => e = .returned (.tuple #[.int .i64 0, .slice none 0 0]) ∧ w' = w := by
  go_enter Try.func37, Try.ntmps37
  go_wp2
  go_ret2
  exact ⟨rfl, rfl⟩
theorem first_yes (w : World) (b off n c : Nat) (z : Int) (h : w.cell? ⟨b, off, none⟩ = some (.int .i64 z)) (hn : 0 < n) (hc : n ≤ c) : Calls Try.prog 37 #[.slice (some ⟨b, off, none⟩) n c] w fun e w' => ∃ a, e = .returned (.tuple #[.int .i64 z, .slice a (n - 1) (c - 1)]) ∧ (1 < n → a = some ⟨b, off + 1, none⟩) ∧ After w w' := by
  have hn0 : ¬ (n : Int) = 0 := by omega
  have hn1 : ((n : Int) == 0) = false := by simpa using hn0
  have i0 : (0 : Int) < n := by omega
  go_enter Try.func37, Try.ntmps37
  have i1 : (1 : Int) ≤ n := by omega
  go_wp2
  go_quiet (fail)
  go_wp2
  all_goals
    go_ret2
    exact ⟨_, rfl, fun h => (by first | rfl | omega), After.rfl.draws _⟩
end Go.Proofs.Ytalffdiohjcajaa
