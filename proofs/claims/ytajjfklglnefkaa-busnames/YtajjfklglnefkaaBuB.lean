/-
  The locks of a bus: moveClock, freeAt, set, isFree; Free, Set, Locked.
-/
import Derived.Test.YtajjfklglnefkaaBuA
namespace Go.Proofs.Ytajjfklglnefkaa
open Go.RowKit
set_option maxRecDepth 8000
theorem bu_at {w : World} {p : Nat} {o : Nat → Nat} {b : Bz} {cs : Array Value} {v : Value} {xs : List Ln} (x : BuX w p o b cs v xs) {t : Int} (h1 : b.ck ≤ t) (h2 : t ≤ 9223372036854775807) : Bu (w.setCell ⟨p, 11, none⟩ (.int .i64 t)) p o (b.at t) := by
  have hs := x.size
  obtain ⟨y1, y2, y3, y4, _⟩ := x.put 11 (.int .i64 t)
  refine ⟨_, v, xs, y1, by simp [hs], ?_, ?_, fun i hi => ?_, fun i hi => ?_, ?_, set_at (by omega) _, y2, x.ls, y3, x.lp, x.lv, y4, at_ok x.ok h1 h2⟩
  · rw [set_off (by omega)]; exact x.c0
  · rw [set_off (by omega)]; exact x.c1
  · rw [set_off (by omega)]; exact x.c2 i hi
  · rw [set_off (by omega)]; exact x.c3 i hi
  · rw [set_off (by omega)]; exact x.c10
/-- A lock is written: both of its cells. -/
theorem bu_lock {w : World} {p : Nat} {o : Nat → Nat} {b : Bz} {cs : Array Value} {v : Value} {xs : List Ln} (x : BuX w p o b cs v xs) {i : Nat} (hi : i < 4) (z : Option Int) (hz : ∀ t, z = some t → 0 ≤ t ∧ t ≤ b.ck) :
    Bu ((w.setCell ⟨p, 2 + i * 2, none⟩ (.bool (frd z))).setCell ⟨p, 2 + i * 2 + 1, none⟩ (.int .i64 (whn z))) p o { b with lk := setAt b.lk i z } := by
  have hs := x.size
  have hb := (but_one w p (2 + i * 2) (.bool (frd z))).trans (but_one _ p (2 + i * 2 + 1) (.int .i64 (whn z)))
  have y1 := blk_put (blk_put x.at0 (2 + i * 2) (.bool (frd z))) (2 + i * 2 + 1) (.int .i64 (whn z))
  have hne : ∀ k, k = p → o k = 1 := fun k e => by rw [e]; exact x.lp
  refine ⟨_, v, xs, y1, by simp [hs], ?_, ?_, fun j hj => ?_, fun j hj => ?_, ?_, ?_, own_but x.own hb (fun k hk e => ?_), x.ls, fun j y hy => ⟨(x.rings j y hy).1.but hb (fun e => ?_), (x.rings j y hy).2⟩, x.lp, x.lv, fun k hk => Nat.lt_of_lt_of_le (x.bnd k hk) hb.size, ⟨x.ok.n1, x.ok.n2, x.ok.f1, x.ok.f2, x.ok.c1, x.ok.c2, x.ok.len, fun k t ht => ?_⟩⟩
  · rw [set_off (by omega), set_off (by omega)]; exact x.c0
  · rw [set_off (by omega), set_off (by omega)]; exact x.c1
  · show _ = some (Value.bool (frd (setAt b.lk i z j)))
    by_cases e : j = i
    · subst e
      rw [set_off (by omega), set_at (by omega), setAt_same]
    · rw [set_off (by omega), set_off (by omega), setAt_other _ _ e]; exact x.c2 j hj
  · show _ = some (Value.int .i64 (whn (setAt b.lk i z j)))
    by_cases e : j = i
    · subst e
      rw [set_at (by simp [hs]; omega), setAt_same]
    · rw [set_off (by omega), set_off (by omega), setAt_other _ _ e]; exact x.c3 j hj
  · rw [set_off (by omega), set_off (by omega)]; exact x.c10
  · rw [set_off (by omega), set_off (by omega)]; exact x.c11
  · have h1 := x.lv k hk
    rw [hne k e] at h1; cases h1
  · have h1 := (x.rings j y hy).2
    rw [hne y.p e] at h1; omega
  · have ht : setAt b.lk i z k = some t := ht
    unfold setAt at ht
    split at ht
    · exact hz t ht
    · exact x.ok.lks k t ht
theorem move_none {w : World} {v : Value} (h : NoneB w v) (i t : Int) : Calls Try.prog 30 #[v, .int .i64 i, .int .i64 t] w fun e w' => e = .returned (.int .i64 1) ∧ w' = w := by
  have H := hideIt (lock_none h i)
  clear h
  go_enter Try.func30, Try.ntmps30
  go_wp2_with (go_at_call 32; refine H.out.mono ?_; rintro e w' ⟨rfl, rfl⟩)
  go_ret
  exact ⟨rfl, rfl⟩
theorem move_no {w : World} {p : Nat} {o : Nat → Nat} {b : Bz} (x : Bu w p o b) {i : Int} (h : i < 0 ∨ 3 < i) (t : Int) : Calls Try.prog 30 #[Ptr p, .int .i64 i, .int .i64 t] w fun e w' => e = .returned (.int .i64 2) ∧ w' = w := by
  have H := hideIt (lock_no x h)
  clear x h
  go_enter Try.func30, Try.ntmps30
  go_wp2_with (go_at_call 32; refine H.out.mono ?_; rintro e w' ⟨rfl, rfl⟩)
  go_ret
  exact ⟨rfl, rfl⟩
theorem move_early {w : World} {p : Nat} {o : Nat → Nat} {b : Bz} (x : Bu w p o b) {i : Int} (h1 : 0 ≤ i) (h2 : i ≤ 3) {t : Int} (ht : t < b.ck) : Calls Try.prog 30 #[Ptr p, .int .i64 i, .int .i64 t] w fun e w' => e = .returned (.int .i64 9) ∧ w' = w := by
  have H := hideIt (lock_ok x h1 h2)
  obtain ⟨cs, v, xs, x⟩ := x
  have c := blk_cell x.at0 x.c11
  clear x h1 h2
  go_enter Try.func30, Try.ntmps30
  go_wp2_with (go_at_call 32; refine H.out.mono ?_; rintro e w' ⟨rfl, rfl⟩)
  go_ret
  exact ⟨rfl, rfl⟩
theorem move_ok {w : World} {p : Nat} {o : Nat → Nat} {b : Bz} (x : Bu w p o b) {i : Int} (h1 : 0 ≤ i) (h2 : i ≤ 3) {t : Int} (ht : b.ck ≤ t) (ht2 : t ≤ 9223372036854775807) : Calls Try.prog 30 #[Ptr p, .int .i64 i, .int .i64 t] w fun e w' => e = .returned (.int .i64 0) ∧ Bu w' p o (b.at t) ∧ But (One p) w w' := by
  have H := hideIt (lock_ok x h1 h2)
  obtain ⟨cs, v, xs, x⟩ := x
  have c := blk_cell x.at0 x.c11
  have f := blk_soft x.at0 11
  have HX := hideIt (And.intro (bu_at x ht ht2) (but_one w p 11 (.int .i64 t)))
  have g : ¬ t < b.ck := by omega
  clear x h1 h2 ht ht2
  go_enter Try.func30, Try.ntmps30
  go_wp2_with (go_at_call 32; refine H.out.mono ?_; rintro e w' ⟨rfl, rfl⟩)
  go_ret
  exact ⟨rfl, HX.out⟩
/-- A lock's two cells, wherever they lie. -/
theorem freeAt_any {w : World} {p j : Nat} {u v : Value} (c0 : w.cell? ⟨p, j, none⟩ = some u) (c1 : w.cell? ⟨p, j + 1, none⟩ = some v) (f0 : w.frozen? ⟨p, j, none⟩ = false) (f1 : w.frozen? ⟨p, j + 1, none⟩ = false) (t : Int) : Calls Try.prog 31 #[.pointer (some ⟨p, j, none⟩), .int .i64 t] w fun e w' => e = .returned (.tuple #[]) ∧ w' = (w.setCell ⟨p, j, none⟩ (.bool true)).setCell ⟨p, j + 1, none⟩ (.int .i64 t) := by
  go_enter Try.func31, Try.ntmps31
  go_wp2
  exact bodyPost_end (v := .tuple #[]) (by simp [results, Try.results31, go_sem]) rfl ⟨rfl, rfl⟩
theorem setLk_any {w : World} {p j : Nat} {u v : Value} (c0 : w.cell? ⟨p, j, none⟩ = some u) (c1 : w.cell? ⟨p, j + 1, none⟩ = some v) (f0 : w.frozen? ⟨p, j, none⟩ = false) (f1 : w.frozen? ⟨p, j + 1, none⟩ = false) : Calls Try.prog 33 #[.pointer (some ⟨p, j, none⟩)] w fun e w' => e = .returned (.tuple #[]) ∧ w' = (w.setCell ⟨p, j, none⟩ (.bool false)).setCell ⟨p, j + 1, none⟩ (.int .i64 0) := by
  go_enter Try.func33, Try.ntmps33
  go_wp2
  exact bodyPost_end (v := .tuple #[]) (by simp [results, Try.results33, go_sem]) rfl ⟨rfl, rfl⟩
theorem isFree_any (w : World) (z : Option Int) (t fr : Int) (h : ∀ a, z = some a → 0 ≤ a ∧ a ≤ t) (ht : t ≤ 9223372036854775807) : Calls Try.prog 34 #[.agg #[.bool (frd z), .int .i64 (whn z)], .int .i64 t, .int .i64 fr] w fun e w' => e = .returned (.bool (!lockd fr t z)) ∧ After w w' := by
  cases z with
  | none =>
    show Calls Try.prog 34 #[.agg #[.bool false, .int .i64 0], .int .i64 t, .int .i64 fr] w fun e w' => e = .returned (.bool false) ∧ After w w'
    clear h
    go_enter Try.func34, Try.ntmps34
    go_wp2
    go_ret
    exact ⟨rfl, After.rfl.alloc _⟩
  | some a =>
    obtain ⟨a1, a2⟩ := h a rfl
    show Calls Try.prog 34 #[.agg #[.bool true, .int .i64 a], .int .i64 t, .int .i64 fr] w fun e w' => e = .returned (.bool (!decide (fr ≤ t - a))) ∧ After w w'
    have hw : IntKind.i64.wrap (t - a) = t - a := wrap_small _ (by omega) (by omega)
    clear h
    by_cases g : t - a < fr
    · have e : (!decide (fr ≤ t - a)) = true := by simp; omega
      rw [e]
      go_enter Try.func34, Try.ntmps34
      go_wp2
      go_ret
      exact ⟨ret_bool (by simp []), After.rfl.alloc _⟩
    · have e : (!decide (fr ≤ t - a)) = false := by simp; omega
      rw [e]
      go_enter Try.func34, Try.ntmps34
      go_wp2
      go_ret
      exact ⟨ret_bool (by simp []), After.rfl.alloc _⟩
/-- The cells of a lock. -/
theorem BuX.lock {w : World} {p : Nat} {o : Nat → Nat} {b : Bz} {cs : Array Value} {v : Value} {xs : List Ln} (x : BuX w p o b cs v xs) {i : Nat} (hi : i < 4) :
    w.cell? ⟨p, 2 + i * 2, none⟩ = some (.bool (frd (b.lk i))) ∧ w.cell? ⟨p, 2 + i * 2 + 1, none⟩ = some (.int .i64 (whn (b.lk i))) ∧ w.frozen? ⟨p, 2 + i * 2, none⟩ = false ∧ w.frozen? ⟨p, 2 + i * 2 + 1, none⟩ = false :=
  ⟨blk_cell x.at0 (x.c2 i hi), blk_cell x.at0 (x.c3 i hi), blk_soft x.at0 _, blk_soft x.at0 _⟩
/-- A lock is freed, or set, where it lies. -/
theorem freeAt_bu {w : World} {p : Nat} {o : Nat → Nat} {b : Bz} (x : Bu w p o b) {i : Nat} (hi : i < 4) {t : Int} (h1 : 0 ≤ t) (h2 : t ≤ b.ck) : Calls Try.prog 31 #[.pointer (some ⟨p, 2 + i * 2, none⟩), .int .i64 t] w fun e w' => e = .returned (.tuple #[]) ∧ Bu w' p o { b with lk := setAt b.lk i (some t) } ∧ But (One p) w w' := by
  obtain ⟨cs, v, xs, x⟩ := x
  obtain ⟨c0, c1, f0, f1⟩ := x.lock hi
  refine (freeAt_any c0 c1 f0 f1 t).mono ?_
  rintro e w' ⟨rfl, rfl⟩
  exact ⟨rfl, bu_lock x hi (some t) (fun a ha => by cases ha; exact ⟨h1, h2⟩), (but_one _ _ _ _).trans (but_one _ _ _ _)⟩
theorem setLk_bu {w : World} {p : Nat} {o : Nat → Nat} {b : Bz} (x : Bu w p o b) {i : Nat} (hi : i < 4) : Calls Try.prog 33 #[.pointer (some ⟨p, 2 + i * 2, none⟩)] w fun e w' => e = .returned (.tuple #[]) ∧ Bu w' p o (b.set i) ∧ But (One p) w w' := by
  obtain ⟨cs, v, xs, x⟩ := x
  obtain ⟨c0, c1, f0, f1⟩ := x.lock hi
  refine (setLk_any c0 c1 f0 f1).mono ?_
  rintro e w' ⟨rfl, rfl⟩
  exact ⟨rfl, bu_lock x hi none (fun a ha => by cases ha), (but_one _ _ _ _).trans (but_one _ _ _ _)⟩
theorem free_none {w : World} {v : Value} (h : NoneB w v) (i t : Int) : Calls Try.prog 16 #[v, .int .i64 i, .int .i64 t] w fun e w' => e = .returned (.int .i64 1) ∧ w' = w := by
  have H := hideIt (move_none h i t)
  clear h
  go_enter Try.func16, Try.ntmps16
  go_wp2_with (go_at_call 30; refine H.out.mono ?_; rintro e w' ⟨rfl, rfl⟩)
  go_ret
  exact ⟨rfl, rfl⟩
theorem free_no {w : World} {p : Nat} {o : Nat → Nat} {b : Bz} (x : Bu w p o b) {i : Int} (h : i < 0 ∨ 3 < i) (t : Int) : Calls Try.prog 16 #[Ptr p, .int .i64 i, .int .i64 t] w fun e w' => e = .returned (.int .i64 2) ∧ w' = w := by
  have H := hideIt (move_no x h t)
  clear x h
  go_enter Try.func16, Try.ntmps16
  go_wp2_with (go_at_call 30; refine H.out.mono ?_; rintro e w' ⟨rfl, rfl⟩)
  go_ret
  exact ⟨rfl, rfl⟩
theorem free_early {w : World} {p : Nat} {o : Nat → Nat} {b : Bz} (x : Bu w p o b) {i : Int} (h1 : 0 ≤ i) (h2 : i ≤ 3) {t : Int} (ht : t < b.ck) : Calls Try.prog 16 #[Ptr p, .int .i64 i, .int .i64 t] w fun e w' => e = .returned (.int .i64 9) ∧ w' = w := by
  have H := hideIt (move_early x h1 h2 ht)
  clear x h1 h2 ht
  go_enter Try.func16, Try.ntmps16
  go_wp2_with (go_at_call 30; refine H.out.mono ?_; rintro e w' ⟨rfl, rfl⟩)
  go_ret
  exact ⟨rfl, rfl⟩
theorem free_yes {w : World} {p : Nat} {o : Nat → Nat} {b : Bz} (x : Bu w p o b) {i : Nat} (hi : i < 4) {t : Int} (ht : b.ck ≤ t) (ht2 : t ≤ 9223372036854775807) : Calls Try.prog 16 #[Ptr p, .int .i64 (i : Int), .int .i64 t] w fun e w' => e = .returned (.int .i64 0) ∧ Bu w' p o (b.free i t) ∧ But (One p) w w' := by
  have H := hideIt (move_ok (i := (i : Int)) x (by omega) (by omega) ht ht2)
  have h0 : 0 ≤ t := Int.le_trans x.ok.c1 ht
  have i1 : (0 : Int) ≤ (i : Int) := by omega
  have i2 : (i : Int) < 4 := by omega
  clear x ht ht2
  go_enter Try.func16, Try.ntmps16
  go_wp2_with fail
  refine H.out.mono ?_
  rintro e w1 ⟨rfl, x1, b1⟩
  have H1 := hideIt (freeAt_bu x1 hi h0 (Int.le_refl t))
  have B1 := hideIt b1
  clear x1 b1 H
  go_wp2_with fail
  refine H1.out.mono ?_
  rintro e w2 ⟨rfl, x2, b2⟩
  have H2 := hideIt (And.intro x2 (B1.out.trans b2))
  clear x2 b2 H1
  go_wp2_with fail
  go_ret
  exact ⟨rfl, H2.out⟩
theorem set_none {w : World} {v : Value} (h : NoneB w v) (i : Int) : Calls Try.prog 17 #[v, .int .i64 i] w fun e w' => e = .returned (.int .i64 1) ∧ w' = w := by
  have H := hideIt (lock_none h i)
  clear h
  go_enter Try.func17, Try.ntmps17
  go_wp2_with (go_at_call 32; refine H.out.mono ?_; rintro e w' ⟨rfl, rfl⟩)
  go_ret
  exact ⟨rfl, rfl⟩
theorem set_no {w : World} {p : Nat} {o : Nat → Nat} {b : Bz} (x : Bu w p o b) {i : Int} (h : i < 0 ∨ 3 < i) : Calls Try.prog 17 #[Ptr p, .int .i64 i] w fun e w' => e = .returned (.int .i64 2) ∧ w' = w := by
  have H := hideIt (lock_no x h)
  clear x h
  go_enter Try.func17, Try.ntmps17
  go_wp2_with (go_at_call 32; refine H.out.mono ?_; rintro e w' ⟨rfl, rfl⟩)
  go_ret
  exact ⟨rfl, rfl⟩
theorem set_yes {w : World} {p : Nat} {o : Nat → Nat} {b : Bz} (x : Bu w p o b) {i : Nat} (hi : i < 4) : Calls Try.prog 17 #[Ptr p, .int .i64 (i : Int)] w fun e w' => e = .returned (.int .i64 0) ∧ Bu w' p o (b.set i) ∧ But (One p) w w' := by
  have H := hideIt (lock_ok (i := (i : Int)) x (by omega) (by omega))
  have i1 : (0 : Int) ≤ (i : Int) := by omega
  have i2 : (i : Int) < 4 := by omega
  have H1 := hideIt (setLk_bu x hi)
  clear x
  go_enter Try.func17, Try.ntmps17
  go_wp2_with fail
  refine H.out.mono ?_
  rintro e w1 ⟨rfl, rfl⟩
  go_wp2_with fail
  refine H1.out.mono ?_
  rintro e w2 ⟨rfl, x2, b2⟩
  have H2 := hideIt (And.intro x2 b2)
  clear x2 b2 H1
  go_wp2_with fail
  go_ret
  exact ⟨rfl, H2.out⟩
theorem locked_none {w : World} {v : Value} (h : NoneB w v) (i t : Int) : Calls Try.prog 18 #[v, .int .i64 i, .int .i64 t] w fun e w' => e = .returned (.tuple #[.bool false, .int .i64 1]) ∧ w' = w := by
  have H := hideIt (move_none h i t)
  clear h
  go_enter Try.func18, Try.ntmps18
  go_wp2_with (go_at_call 30; refine H.out.mono ?_; rintro e w' ⟨rfl, rfl⟩)
  go_ret2
  exact ⟨rfl, rfl⟩
theorem locked_no {w : World} {p : Nat} {o : Nat → Nat} {b : Bz} (x : Bu w p o b) {i : Int} (h : i < 0 ∨ 3 < i) (t : Int) : Calls Try.prog 18 #[Ptr p, .int .i64 i, .int .i64 t] w fun e w' => e = .returned (.tuple #[.bool false, .int .i64 2]) ∧ w' = w := by
  have H := hideIt (move_no x h t)
  clear x h
  go_enter Try.func18, Try.ntmps18
  go_wp2_with (go_at_call 30; refine H.out.mono ?_; rintro e w' ⟨rfl, rfl⟩)
  go_ret2
  exact ⟨rfl, rfl⟩
theorem locked_early {w : World} {p : Nat} {o : Nat → Nat} {b : Bz} (x : Bu w p o b) {i : Int} (h1 : 0 ≤ i) (h2 : i ≤ 3) {t : Int} (ht : t < b.ck) : Calls Try.prog 18 #[Ptr p, .int .i64 i, .int .i64 t] w fun e w' => e = .returned (.tuple #[.bool false, .int .i64 9]) ∧ w' = w := by
  have H := hideIt (move_early x h1 h2 ht)
  clear x h1 h2 ht
  go_enter Try.func18, Try.ntmps18
  go_wp2_with (go_at_call 30; refine H.out.mono ?_; rintro e w' ⟨rfl, rfl⟩)
  go_ret2
  exact ⟨rfl, rfl⟩
theorem Bu.lockAt {w : World} {p : Nat} {o : Nat → Nat} {b : Bz} (x : Bu w p o b) {i : Nat} (hi : i < 4) : w.cell? ⟨p, 2 + i * 2, none⟩ = some (.bool (frd (b.lk i))) ∧ w.cell? ⟨p, 2 + i * 2 + 1, none⟩ = some (.int .i64 (whn (b.lk i))) ∧ w.cell? ⟨p, 10, none⟩ = some (.int .i64 b.fr) := by
  obtain ⟨cs, v, xs, x⟩ := x
  exact ⟨(x.lock hi).1, (x.lock hi).2.1, blk_cell x.at0 x.c10⟩
set_option maxHeartbeats 1000000 in
theorem locked_yes {w : World} {p : Nat} {o : Nat → Nat} {b : Bz} (x : Bu w p o b) {i : Nat} (hi : i < 4) {t : Int} (ht : b.ck ≤ t) (ht2 : t ≤ 9223372036854775807) : Calls Try.prog 18 #[Ptr p, .int .i64 (i : Int), .int .i64 t] w fun e w' => e = .returned (.tuple #[.bool (b.locked i t), .int .i64 0]) ∧ Bu w' p o (b.at t) ∧ But (One p) w w' := by
  have H := hideIt (move_ok (i := (i : Int)) x (by omega) (by omega) ht ht2)
  have i1 : (0 : Int) ≤ (i : Int) := by omega
  have i2 : (i : Int) < 4 := by omega
  have HF := hideIt (fun V => isFree_any V (b.lk i) t b.fr (fun a ha => ⟨(x.ok.lks i a ha).1, Int.le_trans (x.ok.lks i a ha).2 ht⟩) ht2)
  have hr : b.locked i t = lockd b.fr t (b.lk i) := rfl
  rw [hr]
  clear x ht ht2 hr
  generalize lockd b.fr t (b.lk i) = r at *
  go_enter Try.func18, Try.ntmps18
  go_wp2_with fail
  refine H.out.mono ?_
  rintro e w1 ⟨rfl, x1, b1⟩
  have HC := hideIt (fun V (a : After w1 V) => (x1.after a).lockAt hi)
  have HX := hideIt (And.intro x1 b1)
  obtain ⟨c0, c1, c2⟩ := x1.lockAt hi
  clear x1 b1 H
  dsimp only [Bz.at] at c0 c1 c2 HC
  generalize frd (b.lk i) = fd at *
  generalize whn (b.lk i) = wn at *
  generalize b.fr = F at *
  go_wp2_with fail
  go_region_held3 (fun V => V.cell? ⟨p, 2 + i * 2, none⟩ = some (.bool fd) ∧ V.cell? ⟨p, 2 + i * 2 + 1, none⟩ = some (.int .i64 wn) ∧ V.cell? ⟨p, 10, none⟩ = some (.int .i64 F)) (first | go_keep | exact ⟨x0, x1, x2⟩)
    (first
      | (go_at_call 34; refine (HF.out _).mono ?_; rintro e w3 ⟨rfl, a3⟩; have A3 := hideIt ((After.rfl.draws 1).trans a3); obtain ⟨x0, x1, x2⟩ := HC.out _ A3.out; clear a3))
  clear x0 x1 x2 c0 c1 c2 HF
  go_wp2
  go_ret2
  exact ⟨rfl, HX.out.1.after A3.out, HX.out.2.then A3.out (fun _ _ t => t.elim)⟩
end Go.Proofs.Ytajjfklglnefkaa
