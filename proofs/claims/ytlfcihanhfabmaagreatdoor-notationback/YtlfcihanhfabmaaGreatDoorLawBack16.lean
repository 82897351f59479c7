/-
  The statement NotationBack, walked.
-/
import Derived.Test.YtlfcihanhfabmaaGreatDoorNtI
import Derived.Test.YtlfcihanhfabmaaGreatDoorNtX
import Derived.Test.YtlfcihanhfabmaaGreatDoorSloH
namespace Go.Proofs.YtlfcihanhfabmaaGreatDoor
open Go.RowKit
set_option maxRecDepth 8000
open L1 (S)
theorem neE_yes {a b : Int} (h : (a == b) = false) (x y : Operand) (w : World) : (do eqGuard .neq 24 x y (.int .i64 a) (.int .i64 b); binOp .neq 24 (.int .i64 a) (.int .i64 b) : Sem Value).run Tryz.prog w = .ok (.bool true) w := by
  simp [go_sem, eqGuard]
  simpa using h
theorem neE_no (a : Int) (x y : Operand) (w : World) : (do eqGuard .neq 24 x y (.int .i64 a) (.int .i64 a); binOp .neq 24 (.int .i64 a) (.int .i64 a) : Sem Value).run Tryz.prog w = .ok (.bool false) w := by simp [go_sem, eqGuard]
theorem eqE6 {a b : Int} (h : (a == b) = false) (x y : Operand) (w : World) : (do eqGuard .eql 24 x y (.int .i64 a) (.int .i64 b); binOp .eql 24 (.int .i64 a) (.int .i64 b) : Sem Value).run Tryz.prog w = .ok (.bool false) w := by simp [go_sem, eqGuard, h]
theorem eqE0 (a : Int) (x y : Operand) (w : World) : (do eqGuard .eql 24 x y (.int .i64 a) (.int .i64 a); binOp .eql 24 (.int .i64 a) (.int .i64 a) : Sem Value).run Tryz.prog w = .ok (.bool true) w := by simp [go_sem, eqGuard]
theorem loadPast {w : World} {g : Nat} {u v : Value} (h : w.heap[g]? = some (.cells #[u, v] 38 (0, 0))) : (Instr.loadAt 38 (Ptr g)).run Tryz.prog w = .ok (.agg #[u, v]) w := by
  have c0 := blk_cell h (i := 0) rfl
  have c1 := blk_cell h (i := 1) rfl
  unfold Ptr
  simp [go_sem, c0, c1]
theorem enterHo : ∀ (args : Array Value) (W : World), (callFunc 16 args).run Tryz.prog W = .ok (.enter 16 args) W := enter_of Tryz.func16 (by kernel_rfl) (by kernel_rfl)
theorem enterSa : ∀ (args : Array Value) (W : World), (callFunc 17 args).run Tryz.prog W = .ok (.enter 17 args) W := enter_of Tryz.func17 (by kernel_rfl) (by kernel_rfl)
theorem textV_short (L : List Nd) : (textV L).length ≤ 1024 := by
  unfold textV
  split
  · split
    · simp
    · omega
  · simp
theorem textV_no {L : List Nd} (h : ¬ textE L = 0) : textV L = [] := by
  unfold textE at h
  unfold textV
  split
  · rename_i h1
    rw [if_pos h1] at h
    split
    · rfl
    · rename_i h2
      rw [if_neg h2] at h
      exact absurd rfl h
  · rfl
theorem chk_of_text {L : List Nd} (h : textE L = 0) : chk L 8 = 0 := by
  unfold textE at h
  split at h
  · rename_i h1; exact h1
  · exact h
set_option maxHeartbeats 1500000 in
theorem law_back (L : List Nd) (s : W8) (w : World) (hl : Laid w) (al : Option Addr) (n cl : Nat) (h1 : NRow w al n L) (hs : s.length ≤ maxLen) (C : List Ch) (X : List Tr) (ac : Option Addr) (nc cc : Nat) (h2 : CRow w ac nc C) (hca : ac = none → nc = 0) (aT : Option Addr) (nt ct : Nat) (h3 : TRow w aT nt X) :
    Calls Tryz.prog 5 #[.slice al n cl, .string (S s), .agg #[.slice ac nc cc, .slice aT nt ct]] w fun e w' => e = .returned (.bool true) ∧ After w w' := by
  obtain rfl : L.length = n := h1.1
  have HL := hideIt hl
  have HPs := hideIt (fun W (b : After w W) => parse_slice s W (hl.on b) hs)
  have HTx := hideIt (fun W (b : After w W) => textA_any L W (hl.on b) al cl (h1.after b))
  obtain ⟨W1, hW1⟩ : ∃ W, W = w.alloc (.cells #[.slice ac nc cc, .slice aT nt ct] 38) := ⟨_, rfl⟩
  obtain ⟨gP, hgP⟩ : ∃ g, g = w.heap.size := ⟨_, rfl⟩
  have HW1 : Hid (After w W1 ∧ W1.heap[gP]? = some (.cells #[.slice ac nc cc, .slice aT nt ct] 38 (0, 0))) := hideIt (by rw [hW1, hgP]; exact ⟨After.rfl.alloc _, heap_alloc_new w _⟩)
  by_cases hE : textE L = 0
  · have hck := chk_of_text hE
    have hpt := parse_text hck hE
    have htl := textV_short L
    rw [hE] at HTx
    have HPt := hideIt (fun W (b : After w W) => parse_slice (textV L) W (hl.on b) (by unfold maxLen; omega))
    by_cases hmany : 32 < (unf L).length
    · rw [if_pos hmany] at hpt
      rw [hpt] at HPt
      obtain ⟨t, ht⟩ : ∃ t, t = textV L := ⟨_, rfl⟩
      rw [← ht] at HPt HTx htl
      obtain ⟨tl, htle⟩ : ∃ tl, tl = t.length := ⟨_, rfl⟩
      rw [← htle] at HPt
      have HTl : Hid ((S t).size = tl) := hideIt (by rw [htle]; rfl)
      clear hl h1 hs h2 hca h3 hE hck hpt htl hmany ht htle
      generalize L.length = n at *
      go_enter Tryz.func5, Tryz.ntmps5
      go_wp2_with fail
      rw [← hW1, ← hgP]
      refine (works_any W1 (HL.out.on HW1.out.1)).mono ?_
      rintro e x1 ⟨rfl, a9⟩
      have HX1 := hideIt (And.intro (HW1.out.1.trans a9) ((a9.block gP (blk_lt HW1.out.2) (fun t => t)).trans HW1.out.2))
      clear a9 hW1 hgP
      go_wp2_with fail
      refine (HTx.out _ HX1.out.1).mono ?_
      rintro e x2 ⟨rfl, a9⟩
      have HX2 := hideIt (And.intro (HX1.out.1.trans a9) ((a9.block gP (blk_lt HX1.out.2) (fun t => t)).trans HX1.out.2))
      clear a9
      go_wp2_with fail
      refine (HPt.out _ HX2.out.1).mono ?_
      rintro e x3 ⟨ma, mc, rfl, -, r9, a9⟩
      obtain ⟨mn, hmn⟩ : ∃ mn, mn = (⟨[], tl, 6⟩ : Ans).ns.length := ⟨_, rfl⟩
      rw [← hmn]
      have HX3 := hideIt (And.intro (HX2.out.1.trans a9) ((a9.block gP (blk_lt HX2.out.2) (fun t => t)).trans HX2.out.2))
      have HPb := hideIt HX3.out.2
      clear r9 a9 hmn
      go_upto_region 8 with fail
      refine region_slotsH (by kernel_rfl) [37, 38, 39, 40, 41, 42, 43, 44, 45, 46, 47, 48, 49, 50, 51, 52, 53, 54, 55, 56, 57, 58, 59, 60, 61, 62, 63, 64, 65, 66, 67] [isV (.int .i64 6), isV (.bool true), isV (.bool true), isV (.int .i64 6), isV (.bool false), isV (.bool false), isV (.int .i64 (tl : Int)), isV (.string (S t)), isV (.int .i64 (tl : Int)), isV (.bool false), isV (.bool false), isV (.bool false), isV (.bool false), isV (.int .i64 6), isV (.bool false), isV (.bool false), isV (undef), isV (undef), isV (undef), isV (undef), isV (undef), isV (undef), isV (undef), isV (undef), isV (undef), isV (undef), isV (undef), isV (undef), isV (undef), isV (.bool false), isV (.bool false)] 31 rfl rfl (stable_all (st_cons (isV_st _) (st_cons (isV_st _) (st_cons (isV_st _) (st_cons (isV_st _) (st_cons (isV_st _) (st_cons (isV_st _) (st_cons (isV_st _) (st_cons (isV_st _) (st_cons (isV_st _) (st_cons (isV_st _) (st_cons (isV_st _) (st_cons (isV_st _) (st_cons (isV_st _) (st_cons (isV_st _) (st_cons (isV_st _) (st_cons (isV_st _) (st_cons (isV_st _) (st_cons (isV_st _) (st_cons (isV_st _) (st_cons (isV_st _) (st_cons (isV_st _) (st_cons (isV_st _) (st_cons (isV_st _) (st_cons (isV_st _) (st_cons (isV_st _) (st_cons (isV_st _) (st_cons (isV_st _) (st_cons (isV_st _) (st_cons (isV_st _) (st_cons (isV_st _) (st_cons (isV_st _) (st_nil))))))))))))))))))))))))))))))))) rfl rfl ?_ ?_
      · exact ⟨⟨rfl, rfl, .inl ⟨(.inl rfl), fun a W9 K hd hb aw hk => wp_move (.inl rfl) (show a.eval (.tmp 11) = .int .i64 6 from hb 11 rfl) (hk _ _ rfl After.rfl)⟩⟩,
          ⟨rfl, rfl, .inl ⟨(.inl rfl), fun a W9 K hd hb aw hk => wp_bin rfl (hd 0 rfl) rfl (neE_yes (by decide) _ _ _) (hk _ _ rfl After.rfl)⟩⟩,
          ⟨rfl, rfl, .inl ⟨(.inl rfl), fun a W9 K hd hb aw hk => wp_move (.inl rfl) (hd 1 rfl) (hk _ _ rfl After.rfl)⟩⟩,
          ⟨rfl, rfl, .inl ⟨(.inr ⟨2, true, rfl, rfl, fun v w h => h⟩), fun a W9 K hd hb aw hk => wp_move (.inl rfl) (show a.eval (.tmp 11) = .int .i64 6 from hb 11 rfl) (hk _ _ rfl After.rfl)⟩⟩,
          ⟨rfl, rfl, .inl ⟨(.inr ⟨2, true, rfl, rfl, fun v w h => h⟩), fun a W9 K hd hb aw hk => wp_bin rfl (hd 3 rfl) rfl (neE_no 6 _ _ _) (hk _ _ rfl After.rfl)⟩⟩,
          ⟨rfl, rfl, .inl ⟨(.inr ⟨2, true, rfl, rfl, fun v w h => h⟩), fun a W9 K hd hb aw hk => wp_move (.inl rfl) (hd 4 rfl) (hk _ _ rfl After.rfl)⟩⟩,
          ⟨rfl, rfl, .inl ⟨(.inr ⟨5, false, rfl, rfl, fun v w h => h⟩), fun a W9 K hd hb aw hk => wp_move (.inl rfl) (show a.eval (.tmp 10) = .int .i64 (tl : Int) from hb 10 rfl) (hk _ _ rfl After.rfl)⟩⟩,
          ⟨rfl, rfl, .inl ⟨(.inr ⟨5, false, rfl, rfl, fun v w h => h⟩), fun a W9 K hd hb aw hk => wp_move (.inl rfl) (show a.eval (.tmp 7) = .string (S t) from hb 7 rfl) (hk _ _ rfl After.rfl)⟩⟩,
          ⟨rfl, rfl, .inl ⟨(.inr ⟨5, false, rfl, rfl, fun v w h => h⟩), fun a W9 K hd hb aw hk => wp_len rfl (hd 7 rfl) (lenS _ _ _ HTl.out Tryz.underlying9 _ _) (hk _ _ rfl After.rfl)⟩⟩,
          ⟨rfl, rfl, .inl ⟨(.inr ⟨5, false, rfl, rfl, fun v w h => h⟩), fun a W9 K hd hb aw hk => wp_bin rfl (hd 6 rfl) (hd 8 rfl) (neI_no _ _ _ _) (hk _ _ rfl After.rfl)⟩⟩,
          ⟨rfl, rfl, .inl ⟨(.inr ⟨2, true, rfl, rfl, fun v w h => h⟩), fun a W9 K hd hb aw hk => wp_pickF rfl (hd 5 rfl) (hd 9 rfl) (hk _ _ rfl After.rfl)⟩⟩,
          ⟨rfl, rfl, .inl ⟨(.inl rfl), fun a W9 K hd hb aw hk => wp_pickT rfl (hd 2 rfl) (hd 10 rfl) (hk _ _ rfl After.rfl)⟩⟩,
          ⟨rfl, rfl, .inl ⟨(.inl rfl), fun a W9 K hd hb aw hk => wp_move (.inl rfl) (hd 11 rfl) (hk _ _ rfl After.rfl)⟩⟩,
          ⟨rfl, rfl, .inl ⟨(.inr ⟨12, false, rfl, rfl, fun v w h => h⟩), fun a W9 K hd hb aw hk => wp_move (.inl rfl) (show a.eval (.tmp 11) = .int .i64 6 from hb 11 rfl) (hk _ _ rfl After.rfl)⟩⟩,
          ⟨rfl, rfl, .inl ⟨(.inr ⟨12, false, rfl, rfl, fun v w h => h⟩), fun a W9 K hd hb aw hk => wp_bin rfl (hd 13 rfl) rfl (eqE6 (by decide) _ _ _) (hk _ _ rfl After.rfl)⟩⟩,
          ⟨rfl, rfl, .inl ⟨(.inr ⟨12, false, rfl, rfl, fun v w h => h⟩), fun a W9 K hd hb aw hk => wp_move (.inl rfl) (hd 14 rfl) (hk _ _ rfl After.rfl)⟩⟩,
          ⟨rfl, rfl, .inr ⟨15, true, rfl, rfl, fun v w h => .inl h, fun w => rfl⟩⟩,
          ⟨rfl, rfl, .inr ⟨15, true, rfl, rfl, fun v w h => .inl h, fun w => rfl⟩⟩,
          ⟨rfl, rfl, .inr ⟨15, true, rfl, rfl, fun v w h => .inl h, fun w => rfl⟩⟩,
          ⟨rfl, rfl, .inr ⟨15, true, rfl, rfl, fun v w h => .inl h, fun w => rfl⟩⟩,
          ⟨rfl, rfl, .inr ⟨15, true, rfl, rfl, fun v w h => .inl h, fun w => rfl⟩⟩,
          ⟨rfl, rfl, .inr ⟨15, true, rfl, rfl, fun v w h => .inl h, fun w => rfl⟩⟩,
          ⟨rfl, rfl, .inr ⟨15, true, rfl, rfl, fun v w h => .inl h, fun w => rfl⟩⟩,
          ⟨rfl, rfl, .inr ⟨15, true, rfl, rfl, fun v w h => .inl h, fun w => rfl⟩⟩,
          ⟨rfl, rfl, .inr ⟨23, false, rfl, rfl, fun v w h => .inr h, fun w => rfl⟩⟩,
          ⟨rfl, rfl, .inr ⟨23, false, rfl, rfl, fun v w h => .inr h, fun w => rfl⟩⟩,
          ⟨rfl, rfl, .inr ⟨23, false, rfl, rfl, fun v w h => .inr h, fun w => rfl⟩⟩,
          ⟨rfl, rfl, .inr ⟨23, false, rfl, rfl, fun v w h => .inr h, fun w => rfl⟩⟩,
          ⟨rfl, rfl, .inr ⟨15, true, rfl, rfl, fun v w h => .inl h, fun w => rfl⟩⟩,
          ⟨rfl, rfl, .inl ⟨(.inr ⟨12, false, rfl, rfl, fun v w h => h⟩), fun a W9 K hd hb aw hk => wp_pickF rfl (hd 15 rfl) rfl (hk _ _ rfl After.rfl)⟩⟩,
          ⟨rfl, rfl, .inl ⟨(.inl rfl), fun a W9 K hd hb aw hk => wp_pickF rfl (hd 12 rfl) (hd 29 rfl) (hk _ _ rfl After.rfl)⟩⟩,
          trivial⟩
      intro x9 w9 hx9 aw9
      have t0 : x9 0 = .int .i64 6 := hx9 0 (Nat.le_of_ble_eq_true rfl)
      have t1 : x9 1 = .bool true := hx9 1 (Nat.le_of_ble_eq_true rfl)
      have t2 : x9 2 = .bool true := hx9 2 (Nat.le_of_ble_eq_true rfl)
      have t3 : x9 3 = .int .i64 6 := hx9 3 (Nat.le_of_ble_eq_true rfl)
      have t4 : x9 4 = .bool false := hx9 4 (Nat.le_of_ble_eq_true rfl)
      have t5 : x9 5 = .bool false := hx9 5 (Nat.le_of_ble_eq_true rfl)
      have t6 : x9 6 = .int .i64 (tl : Int) := hx9 6 (Nat.le_of_ble_eq_true rfl)
      have t7 : x9 7 = .string (S t) := hx9 7 (Nat.le_of_ble_eq_true rfl)
      have t8 : x9 8 = .int .i64 (tl : Int) := hx9 8 (Nat.le_of_ble_eq_true rfl)
      have t9 : x9 9 = .bool false := hx9 9 (Nat.le_of_ble_eq_true rfl)
      have t10 : x9 10 = .bool false := hx9 10 (Nat.le_of_ble_eq_true rfl)
      have t11 : x9 11 = .bool false := hx9 11 (Nat.le_of_ble_eq_true rfl)
      have t12 : x9 12 = .bool false := hx9 12 (Nat.le_of_ble_eq_true rfl)
      have t13 : x9 13 = .int .i64 6 := hx9 13 (Nat.le_of_ble_eq_true rfl)
      have t14 : x9 14 = .bool false := hx9 14 (Nat.le_of_ble_eq_true rfl)
      have t15 : x9 15 = .bool false := hx9 15 (Nat.le_of_ble_eq_true rfl)
      have t16 : x9 16 = undef := hx9 16 (Nat.le_of_ble_eq_true rfl)
      have t17 : x9 17 = undef := hx9 17 (Nat.le_of_ble_eq_true rfl)
      have t18 : x9 18 = undef := hx9 18 (Nat.le_of_ble_eq_true rfl)
      have t19 : x9 19 = undef := hx9 19 (Nat.le_of_ble_eq_true rfl)
      have t20 : x9 20 = undef := hx9 20 (Nat.le_of_ble_eq_true rfl)
      have t21 : x9 21 = undef := hx9 21 (Nat.le_of_ble_eq_true rfl)
      have t22 : x9 22 = undef := hx9 22 (Nat.le_of_ble_eq_true rfl)
      have t23 : x9 23 = undef := hx9 23 (Nat.le_of_ble_eq_true rfl)
      have t24 : x9 24 = undef := hx9 24 (Nat.le_of_ble_eq_true rfl)
      have t25 : x9 25 = undef := hx9 25 (Nat.le_of_ble_eq_true rfl)
      have t26 : x9 26 = undef := hx9 26 (Nat.le_of_ble_eq_true rfl)
      have t27 : x9 27 = undef := hx9 27 (Nat.le_of_ble_eq_true rfl)
      have t28 : x9 28 = undef := hx9 28 (Nat.le_of_ble_eq_true rfl)
      have t29 : x9 29 = .bool false := hx9 29 (Nat.le_of_ble_eq_true rfl)
      have t30 : x9 30 = .bool false := hx9 30 (Nat.le_of_ble_eq_true rfl)
      simp only [sets, List.getD_cons_succ, List.getD_cons_zero, List.set_cons_succ, List.set_cons_zero, t0, t1, t2, t3, t4, t5, t6, t7, t8, t9, t10, t11, t12, t13, t14, t15, t16, t17, t18, t19, t20, t21, t22, t23, t24, t25, t26, t27, t28, t29, t30]
      clear hx9 t0 t1 t2 t3 t4 t5 t6 t7 t8 t9 t10 t11 t12 t13 t14 t15 t16 t17 t18 t19 t20 t21 t22 t23 t24 t25 t26 t27 t28 t29 t30
      clear x9
      have HX := hideIt (HX3.out.1.trans aw9)
      clear aw9
      go_wp2_with fail
      refine (HPs.out _ HX.out).mono ?_
      rintro e y1 ⟨sa, sc, rfl, -, r9, a9⟩
      have HY1 := hideIt (And.intro r9 (HX.out.trans a9))
      clear r9 a9
      by_cases hE2 : (parseA s).e = 0
      · obtain ⟨b1, b2, b3⟩ := back_parse hE2
        have hlen := (chk_parts b1).2.1
        have HBk := hideIt (And.intro b2 (And.intro b3 hlen))
        have HCk : Hid (∀ W, NRow W sa (parseA s).ns.length (parseA s).ns → Calls Tryz.prog 18 #[.slice sa (parseA s).ns.length sc, .int .i64 8] W fun e w' => e = .returned (.int .i64 0) ∧ After W w') := hideIt (fun W hr => by
          have := check_any (parseA s).ns W sa (parseA s).ns.length sc hr 8
          rw [b1] at this
          exact this)
        have HSy : Hid (∀ W, Laid W → NRow W sa (parseA s).ns.length (parseA s).ns → Calls Tryz.prog 17 #[.slice sa (parseA s).ns.length sc] W fun e w' => e = .returned (.string (S (textV (parseA s).ns))) ∧ After W w') := hideIt (fun W hL hr => says_yes b2 W hL sa sc hr)
        have HRy : Hid (∀ W, Laid W → NRow W sa (parseA s).ns.length (parseA s).ns → Calls Tryz.prog 19 #[.string (S (textV (parseA s).ns)), .slice sa (parseA s).ns.length sc] W fun e w' => e = .returned (.bool true) ∧ After W w') := hideIt (fun W hL hr => reads_yes b3 W hL (by have := textV_short (parseA s).ns; omega) sa sc hr hlen)
        rw [hE2]
        clear b1 b2 b3 hlen hE2
        generalize (parseA s).at_ = at9 at *
        generalize textV (parseA s).ns = tv9 at *
        generalize (parseA s).ns.length = n9 at *
        generalize (parseA s).ns = m9 at *
        go_wp2_with fail
        refine (HCk.out _ HY1.out.1).mono ?_
        rintro e y2 ⟨rfl, a9⟩
        have HY2 := hideIt (And.intro (HY1.out.1.after a9) (HY1.out.2.trans a9))
        clear a9
        go_wp2_with fail
        refine (HSy.out _ (HL.out.on HY2.out.2) HY2.out.1).mono ?_
        rintro e y3 ⟨rfl, a9⟩
        have HY3 := hideIt (And.intro (HY2.out.1.after a9) (HY2.out.2.trans a9))
        clear a9
        go_wp2_with fail
        refine (HRy.out _ (HL.out.on HY3.out.2) HY3.out.1).mono ?_
        rintro e y4 ⟨rfl, a9⟩
        have HY4 := hideIt (HY3.out.2.trans a9)
        clear a9
        go_wp2
        go_ret
        exact ⟨rfl, HY4.out⟩
      · have hns := parse_no hE2
        rw [hns]
        obtain ⟨E9, hE9⟩ : ∃ E, E = (parseA s).e := ⟨_, rfl⟩
        rw [← hE9] at hE2 ⊢
        have hb9 : (E9 == 0) = false := by simpa using hE2
        have hn9 : (E9 != 0) = true := by simpa using hE2
        generalize (parseA s).at_ = at9 at *
        clear hns hE9
        go_wp2_with fail
        go_ret
        exact ⟨rfl, HY1.out.2⟩
    · rw [if_neg hmany] at hpt
      obtain ⟨k1, k2, k3, k4⟩ := back_text hck hE (by omega)
      rw [hpt] at HPt
      obtain ⟨M, hM⟩ : ∃ M, M = unf L := ⟨_, rfl⟩
      rw [← hM] at HPt k1 k2 k3 k4
      obtain ⟨B, hB⟩ : ∃ B, B = bitsOf (val L (pad8 Ch.none C) (trc (rdsOf X)) (L.length - 1)) (trc (rdsOf X)).length := ⟨_, rfl⟩
      have hBm : bitsOf (val M (pad8 Ch.none C) (trc (rdsOf X)) (M.length - 1)) (trc (rdsOf X)).length = B := by
        rw [hB]
        exact bitsOf_congr (fun q _ => k4 _ _ q)
      obtain ⟨t, ht⟩ : ∃ t, t = textV L := ⟨_, rfl⟩
      rw [← ht] at HPt HTx htl k3
      obtain ⟨tl, htle⟩ : ∃ tl, tl = t.length := ⟨_, rfl⟩
      have HTl : Hid ((S t).size = tl) := hideIt (by rw [htle]; rfl)
      have HHl0 : Hid (∀ W, After w W → Calls Tryz.prog 16 #[.slice al L.length cl, .agg #[.slice ac nc cc, .slice aT nt ct]] W fun e w' => e = .returned (.string B) ∧ After W w') := hideIt (fun W b => by
        rw [hB]
        exact holds16 hck W al cl (h1.after b) ac nc cc (h2.after b) hca aT nt ct (h3.after b))
      have HHm0 : Hid (∀ W a c, After w W → NRow W a M.length M → Calls Tryz.prog 16 #[.slice a M.length c, .agg #[.slice ac nc cc, .slice aT nt ct]] W fun e w' => e = .returned (.string B) ∧ After W w') := hideIt (fun W a c b hr => by
        rw [← hBm]
        exact holds16 k1 W a c hr ac nc cc (h2.after b) hca aT nt ct (h3.after b))
      have HSa0 : Hid (∀ W a c, After w W → NRow W a M.length M → Calls Tryz.prog 17 #[.slice a M.length c] W fun e w' => e = .returned (.string (S t)) ∧ After W w') := hideIt (fun W a c b hr => by
        rw [← k3]
        exact says_yes k2 W (hl.on b) a c hr)
      clear hl h1 hs h2 hca h3 hE hck hpt htl hmany ht htle k1 k2 k3 k4 hB hBm hM
      generalize L.length = n at *
      go_enter Tryz.func5, Tryz.ntmps5
      go_wp2_with fail
      rw [← hW1, ← hgP]
      refine (works_any W1 (HL.out.on HW1.out.1)).mono ?_
      rintro e x1 ⟨rfl, a9⟩
      have HX1 := hideIt (And.intro (HW1.out.1.trans a9) ((a9.block gP (blk_lt HW1.out.2) (fun t => t)).trans HW1.out.2))
      clear a9 hW1 hgP
      go_wp2_with fail
      refine (HTx.out _ HX1.out.1).mono ?_
      rintro e x2 ⟨rfl, a9⟩
      have HX2 := hideIt (And.intro (HX1.out.1.trans a9) ((a9.block gP (blk_lt HX1.out.2) (fun t => t)).trans HX1.out.2))
      clear a9
      go_wp2_with fail
      refine (HPt.out _ HX2.out.1).mono ?_
      rintro e x3 ⟨ma, mc, rfl, -, r9, a9⟩
      have HX3 := hideIt (And.intro (HX2.out.1.trans a9) ((a9.block gP (blk_lt HX2.out.2) (fun t => t)).trans HX2.out.2))
      have HPb := hideIt HX3.out.2
      have HHl : Hid (∀ W, After x3 W → Calls Tryz.prog 16 #[.slice al n cl, .agg #[.slice ac nc cc, .slice aT nt ct]] W fun e w' => e = .returned (.string B) ∧ After W w') := hideIt (fun W b => HHl0.out W (HX3.out.1.trans b))
      have HHm : Hid (∀ W, After x3 W → Calls Tryz.prog 16 #[.slice ma M.length mc, .agg #[.slice ac nc cc, .slice aT nt ct]] W fun e w' => e = .returned (.string B) ∧ After W w') := hideIt (fun W b => HHm0.out W ma mc (HX3.out.1.trans b) (r9.after b))
      have HSa : Hid (∀ W, After x3 W → Calls Tryz.prog 17 #[.slice ma M.length mc] W fun e w' => e = .returned (.string (S t)) ∧ After W w') := hideIt (fun W b => HSa0.out W ma mc (HX3.out.1.trans b) (r9.after b))
      obtain ⟨mn, hmn⟩ : ∃ mn, mn = M.length := ⟨_, rfl⟩
      rw [← hmn] at HHm HSa ⊢
      clear r9 a9 hmn HHl0 HHm0 HSa0 HPt
      go_upto_region 8 with fail
      refine region_slotsH (by kernel_rfl) [37, 38, 39, 40, 41, 42, 43, 44, 45, 46, 47, 48, 49, 50, 51, 52, 53, 54, 55, 56, 57, 58, 59, 60, 61, 62, 63, 64, 65, 66, 67] [isV (.int .i64 0), isV (.bool false), isV (.bool false), isV (undef), isV (undef), isV (undef), isV (undef), isV (undef), isV (undef), isV (undef), isV (undef), isV (.bool false), isV (.bool false), isV (.int .i64 0), isV (.bool true), isV (.bool true), isV (.slice ma mn mc), isV (.agg #[.slice ac nc cc, .slice aT nt ct]), isV (.string B), isV (.slice al n cl), isV (.agg #[.slice ac nc cc, .slice aT nt ct]), isV (.string B), isV (.bool false), isV (.bool false), isV (.slice ma mn mc), isV (.string (S t)), isV (.string (S t)), isV (.bool false), isV (.bool false), isV (.bool false), isV (.bool false)] 31 rfl rfl (stable_all (st_cons (isV_st _) (st_cons (isV_st _) (st_cons (isV_st _) (st_cons (isV_st _) (st_cons (isV_st _) (st_cons (isV_st _) (st_cons (isV_st _) (st_cons (isV_st _) (st_cons (isV_st _) (st_cons (isV_st _) (st_cons (isV_st _) (st_cons (isV_st _) (st_cons (isV_st _) (st_cons (isV_st _) (st_cons (isV_st _) (st_cons (isV_st _) (st_cons (isV_st _) (st_cons (isV_st _) (st_cons (isV_st _) (st_cons (isV_st _) (st_cons (isV_st _) (st_cons (isV_st _) (st_cons (isV_st _) (st_cons (isV_st _) (st_cons (isV_st _) (st_cons (isV_st _) (st_cons (isV_st _) (st_cons (isV_st _) (st_cons (isV_st _) (st_cons (isV_st _) (st_cons (isV_st _) (st_nil))))))))))))))))))))))))))))))))) rfl rfl ?_ ?_
      · exact ⟨⟨rfl, rfl, .inl ⟨(.inl rfl), fun a W9 K hd hb aw hk => wp_move (.inl rfl) (show a.eval (.tmp 11) = .int .i64 0 from hb 11 rfl) (hk _ _ rfl After.rfl)⟩⟩,
          ⟨rfl, rfl, .inl ⟨(.inl rfl), fun a W9 K hd hb aw hk => wp_bin rfl (hd 0 rfl) rfl (neE_no 0 _ _ _) (hk _ _ rfl After.rfl)⟩⟩,
          ⟨rfl, rfl, .inl ⟨(.inl rfl), fun a W9 K hd hb aw hk => wp_move (.inl rfl) (hd 1 rfl) (hk _ _ rfl After.rfl)⟩⟩,
          ⟨rfl, rfl, .inr ⟨2, true, rfl, rfl, fun v w h => .inl h, fun w => rfl⟩⟩,
          ⟨rfl, rfl, .inr ⟨2, true, rfl, rfl, fun v w h => .inl h, fun w => rfl⟩⟩,
          ⟨rfl, rfl, .inr ⟨2, true, rfl, rfl, fun v w h => .inl h, fun w => rfl⟩⟩,
          ⟨rfl, rfl, .inr ⟨5, false, rfl, rfl, fun v w h => .inr h, fun w => rfl⟩⟩,
          ⟨rfl, rfl, .inr ⟨5, false, rfl, rfl, fun v w h => .inr h, fun w => rfl⟩⟩,
          ⟨rfl, rfl, .inr ⟨5, false, rfl, rfl, fun v w h => .inr h, fun w => rfl⟩⟩,
          ⟨rfl, rfl, .inr ⟨5, false, rfl, rfl, fun v w h => .inr h, fun w => rfl⟩⟩,
          ⟨rfl, rfl, .inr ⟨2, true, rfl, rfl, fun v w h => .inl h, fun w => rfl⟩⟩,
          ⟨rfl, rfl, .inl ⟨(.inl rfl), fun a W9 K hd hb aw hk => wp_pickF rfl (hd 2 rfl) rfl (hk _ _ rfl After.rfl)⟩⟩,
          ⟨rfl, rfl, .inl ⟨(.inl rfl), fun a W9 K hd hb aw hk => wp_move (.inl rfl) (hd 11 rfl) (hk _ _ rfl After.rfl)⟩⟩,
          ⟨rfl, rfl, .inl ⟨(.inr ⟨12, false, rfl, rfl, fun v w h => h⟩), fun a W9 K hd hb aw hk => wp_move (.inl rfl) (show a.eval (.tmp 11) = .int .i64 0 from hb 11 rfl) (hk _ _ rfl After.rfl)⟩⟩,
          ⟨rfl, rfl, .inl ⟨(.inr ⟨12, false, rfl, rfl, fun v w h => h⟩), fun a W9 K hd hb aw hk => wp_bin rfl (hd 13 rfl) rfl (eqE0 0 _ _ _) (hk _ _ rfl After.rfl)⟩⟩,
          ⟨rfl, rfl, .inl ⟨(.inr ⟨12, false, rfl, rfl, fun v w h => h⟩), fun a W9 K hd hb aw hk => wp_move (.inl rfl) (hd 14 rfl) (hk _ _ rfl After.rfl)⟩⟩,
          ⟨rfl, rfl, .inl ⟨(.inr ⟨15, true, rfl, rfl, fun v w h => h⟩), fun a W9 K hd hb aw hk => wp_move (.inl rfl) (show a.eval (.tmp 9) = .slice ma mn mc from hb 9 rfl) (hk _ _ rfl After.rfl)⟩⟩,
          ⟨rfl, rfl, .inl ⟨(.inr ⟨15, true, rfl, rfl, fun v w h => h⟩), fun a W9 K hd hb aw hk => wp_load rfl (show a.eval (.tmp 5) = Ptr gP from hb 5 rfl) (loadPast ((aw.block gP (blk_lt HPb.out) (fun t => t)).trans HPb.out)) (hk _ _ rfl After.rfl)⟩⟩,
          ⟨rfl, rfl, .inl ⟨(.inr ⟨15, true, rfl, rfl, fun v w h => h⟩), fun a W9 K hd hb aw hk => wp_func2 rfl enterHo (hd 16 rfl) (hd 17 rfl) ((HHm.out _ aw).mono (fun _ _ ⟨he, hA⟩ => ⟨_, he, hk _ _ rfl hA⟩))⟩⟩,
          ⟨rfl, rfl, .inl ⟨(.inr ⟨15, true, rfl, rfl, fun v w h => h⟩), fun a W9 K hd hb aw hk => wp_move (.inl rfl) (show a.eval (.tmp 0) = .slice al n cl from hb 0 rfl) (hk _ _ rfl After.rfl)⟩⟩,
          ⟨rfl, rfl, .inl ⟨(.inr ⟨15, true, rfl, rfl, fun v w h => h⟩), fun a W9 K hd hb aw hk => wp_load rfl (show a.eval (.tmp 5) = Ptr gP from hb 5 rfl) (loadPast ((aw.block gP (blk_lt HPb.out) (fun t => t)).trans HPb.out)) (hk _ _ rfl After.rfl)⟩⟩,
          ⟨rfl, rfl, .inl ⟨(.inr ⟨15, true, rfl, rfl, fun v w h => h⟩), fun a W9 K hd hb aw hk => wp_func2 rfl enterHo (hd 19 rfl) (hd 20 rfl) ((HHl.out _ aw).mono (fun _ _ ⟨he, hA⟩ => ⟨_, he, hk _ _ rfl hA⟩))⟩⟩,
          ⟨rfl, rfl, .inl ⟨(.inr ⟨15, true, rfl, rfl, fun v w h => h⟩), fun a W9 K hd hb aw hk => wp_bin rfl (hd 18 rfl) (hd 21 rfl) (neS_no _ _ _ _) (hk _ _ rfl After.rfl)⟩⟩,
          ⟨rfl, rfl, .inl ⟨(.inr ⟨15, true, rfl, rfl, fun v w h => h⟩), fun a W9 K hd hb aw hk => wp_move (.inl rfl) (hd 22 rfl) (hk _ _ rfl After.rfl)⟩⟩,
          ⟨rfl, rfl, .inl ⟨(.inr ⟨23, false, rfl, rfl, fun v w h => h⟩), fun a W9 K hd hb aw hk => wp_move (.inl rfl) (show a.eval (.tmp 9) = .slice ma mn mc from hb 9 rfl) (hk _ _ rfl After.rfl)⟩⟩,
          ⟨rfl, rfl, .inl ⟨(.inr ⟨23, false, rfl, rfl, fun v w h => h⟩), fun a W9 K hd hb aw hk => wp_func1 rfl enterSa (hd 24 rfl) ((HSa.out _ aw).mono (fun _ _ ⟨he, hA⟩ => ⟨_, he, hk _ _ rfl hA⟩))⟩⟩,
          ⟨rfl, rfl, .inl ⟨(.inr ⟨23, false, rfl, rfl, fun v w h => h⟩), fun a W9 K hd hb aw hk => wp_move (.inl rfl) (show a.eval (.tmp 7) = .string (S t) from hb 7 rfl) (hk _ _ rfl After.rfl)⟩⟩,
          ⟨rfl, rfl, .inl ⟨(.inr ⟨23, false, rfl, rfl, fun v w h => h⟩), fun a W9 K hd hb aw hk => wp_bin rfl (hd 25 rfl) (hd 26 rfl) (neS_no _ _ _ _) (hk _ _ rfl After.rfl)⟩⟩,
          ⟨rfl, rfl, .inl ⟨(.inr ⟨15, true, rfl, rfl, fun v w h => h⟩), fun a W9 K hd hb aw hk => wp_pickF rfl (hd 23 rfl) (hd 27 rfl) (hk _ _ rfl After.rfl)⟩⟩,
          ⟨rfl, rfl, .inl ⟨(.inr ⟨12, false, rfl, rfl, fun v w h => h⟩), fun a W9 K hd hb aw hk => wp_pickT rfl (hd 15 rfl) (hd 28 rfl) (hk _ _ rfl After.rfl)⟩⟩,
          ⟨rfl, rfl, .inl ⟨(.inl rfl), fun a W9 K hd hb aw hk => wp_pickF rfl (hd 12 rfl) (hd 29 rfl) (hk _ _ rfl After.rfl)⟩⟩,
          trivial⟩
      intro x9 w9 hx9 aw9
      have t0 : x9 0 = .int .i64 0 := hx9 0 (Nat.le_of_ble_eq_true rfl)
      have t1 : x9 1 = .bool false := hx9 1 (Nat.le_of_ble_eq_true rfl)
      have t2 : x9 2 = .bool false := hx9 2 (Nat.le_of_ble_eq_true rfl)
      have t3 : x9 3 = undef := hx9 3 (Nat.le_of_ble_eq_true rfl)
      have t4 : x9 4 = undef := hx9 4 (Nat.le_of_ble_eq_true rfl)
      have t5 : x9 5 = undef := hx9 5 (Nat.le_of_ble_eq_true rfl)
      have t6 : x9 6 = undef := hx9 6 (Nat.le_of_ble_eq_true rfl)
      have t7 : x9 7 = undef := hx9 7 (Nat.le_of_ble_eq_true rfl)
      have t8 : x9 8 = undef := hx9 8 (Nat.le_of_ble_eq_true rfl)
      have t9 : x9 9 = undef := hx9 9 (Nat.le_of_ble_eq_true rfl)
      have t10 : x9 10 = undef := hx9 10 (Nat.le_of_ble_eq_true rfl)
      have t11 : x9 11 = .bool false := hx9 11 (Nat.le_of_ble_eq_true rfl)
      have t12 : x9 12 = .bool false := hx9 12 (Nat.le_of_ble_eq_true rfl)
      have t13 : x9 13 = .int .i64 0 := hx9 13 (Nat.le_of_ble_eq_true rfl)
      have t14 : x9 14 = .bool true := hx9 14 (Nat.le_of_ble_eq_true rfl)
      have t15 : x9 15 = .bool true := hx9 15 (Nat.le_of_ble_eq_true rfl)
      have t16 : x9 16 = .slice ma mn mc := hx9 16 (Nat.le_of_ble_eq_true rfl)
      have t17 : x9 17 = .agg #[.slice ac nc cc, .slice aT nt ct] := hx9 17 (Nat.le_of_ble_eq_true rfl)
      have t18 : x9 18 = .string B := hx9 18 (Nat.le_of_ble_eq_true rfl)
      have t19 : x9 19 = .slice al n cl := hx9 19 (Nat.le_of_ble_eq_true rfl)
      have t20 : x9 20 = .agg #[.slice ac nc cc, .slice aT nt ct] := hx9 20 (Nat.le_of_ble_eq_true rfl)
      have t21 : x9 21 = .string B := hx9 21 (Nat.le_of_ble_eq_true rfl)
      have t22 : x9 22 = .bool false := hx9 22 (Nat.le_of_ble_eq_true rfl)
      have t23 : x9 23 = .bool false := hx9 23 (Nat.le_of_ble_eq_true rfl)
      have t24 : x9 24 = .slice ma mn mc := hx9 24 (Nat.le_of_ble_eq_true rfl)
      have t25 : x9 25 = .string (S t) := hx9 25 (Nat.le_of_ble_eq_true rfl)
      have t26 : x9 26 = .string (S t) := hx9 26 (Nat.le_of_ble_eq_true rfl)
      have t27 : x9 27 = .bool false := hx9 27 (Nat.le_of_ble_eq_true rfl)
      have t28 : x9 28 = .bool false := hx9 28 (Nat.le_of_ble_eq_true rfl)
      have t29 : x9 29 = .bool false := hx9 29 (Nat.le_of_ble_eq_true rfl)
      have t30 : x9 30 = .bool false := hx9 30 (Nat.le_of_ble_eq_true rfl)
      simp only [sets, List.getD_cons_succ, List.getD_cons_zero, List.set_cons_succ, List.set_cons_zero, t0, t1, t2, t3, t4, t5, t6, t7, t8, t9, t10, t11, t12, t13, t14, t15, t16, t17, t18, t19, t20, t21, t22, t23, t24, t25, t26, t27, t28, t29, t30]
      clear hx9 t0 t1 t2 t3 t4 t5 t6 t7 t8 t9 t10 t11 t12 t13 t14 t15 t16 t17 t18 t19 t20 t21 t22 t23 t24 t25 t26 t27 t28 t29 t30
      clear x9
      have HX := hideIt (HX3.out.1.trans aw9)
      clear aw9
      go_wp2_with fail
      refine (HPs.out _ HX.out).mono ?_
      rintro e y1 ⟨sa, sc, rfl, -, r9, a9⟩
      have HY1 := hideIt (And.intro r9 (HX.out.trans a9))
      clear r9 a9
      by_cases hE2 : (parseA s).e = 0
      · obtain ⟨b1, b2, b3⟩ := back_parse hE2
        have hlen := (chk_parts b1).2.1
        have HBk := hideIt (And.intro b2 (And.intro b3 hlen))
        have HCk : Hid (∀ W, NRow W sa (parseA s).ns.length (parseA s).ns → Calls Tryz.prog 18 #[.slice sa (parseA s).ns.length sc, .int .i64 8] W fun e w' => e = .returned (.int .i64 0) ∧ After W w') := hideIt (fun W hr => by
          have := check_any (parseA s).ns W sa (parseA s).ns.length sc hr 8
          rw [b1] at this
          exact this)
        have HSy : Hid (∀ W, Laid W → NRow W sa (parseA s).ns.length (parseA s).ns → Calls Tryz.prog 17 #[.slice sa (parseA s).ns.length sc] W fun e w' => e = .returned (.string (S (textV (parseA s).ns))) ∧ After W w') := hideIt (fun W hL hr => says_yes b2 W hL sa sc hr)
        have HRy : Hid (∀ W, Laid W → NRow W sa (parseA s).ns.length (parseA s).ns → Calls Tryz.prog 19 #[.string (S (textV (parseA s).ns)), .slice sa (parseA s).ns.length sc] W fun e w' => e = .returned (.bool true) ∧ After W w') := hideIt (fun W hL hr => reads_yes b3 W hL (by have := textV_short (parseA s).ns; omega) sa sc hr hlen)
        rw [hE2]
        clear b1 b2 b3 hlen hE2
        generalize (parseA s).at_ = at9 at *
        generalize textV (parseA s).ns = tv9 at *
        generalize (parseA s).ns.length = n9 at *
        generalize (parseA s).ns = m9 at *
        go_wp2_with fail
        refine (HCk.out _ HY1.out.1).mono ?_
        rintro e y2 ⟨rfl, a9⟩
        have HY2 := hideIt (And.intro (HY1.out.1.after a9) (HY1.out.2.trans a9))
        clear a9
        go_wp2_with fail
        refine (HSy.out _ (HL.out.on HY2.out.2) HY2.out.1).mono ?_
        rintro e y3 ⟨rfl, a9⟩
        have HY3 := hideIt (And.intro (HY2.out.1.after a9) (HY2.out.2.trans a9))
        clear a9
        go_wp2_with fail
        refine (HRy.out _ (HL.out.on HY3.out.2) HY3.out.1).mono ?_
        rintro e y4 ⟨rfl, a9⟩
        have HY4 := hideIt (HY3.out.2.trans a9)
        clear a9
        go_wp2
        go_ret
        exact ⟨rfl, HY4.out⟩
      · have hns := parse_no hE2
        rw [hns]
        obtain ⟨E9, hE9⟩ : ∃ E, E = (parseA s).e := ⟨_, rfl⟩
        rw [← hE9] at hE2 ⊢
        have hb9 : (E9 == 0) = false := by simpa using hE2
        have hn9 : (E9 != 0) = true := by simpa using hE2
        generalize (parseA s).at_ = at9 at *
        clear hns hE9
        go_wp2_with fail
        go_ret
        exact ⟨rfl, HY1.out.2⟩
  · have htv := textV_no hE
    rw [htv] at HTx
    obtain ⟨E, hEE⟩ : ∃ E, E = textE L := ⟨_, rfl⟩
    rw [← hEE] at HTx hE
    have hbE : (E == 0) = false := by simpa using hE
    have hbN : (E != 0) = true := by simpa using hE
    have hz0 : (S []).size = 0 := rfl
    clear hl h1 hs h2 hca h3 htv hEE
    generalize L.length = n at *
    go_enter Tryz.func5, Tryz.ntmps5
    go_wp2_with fail
    rw [← hW1, ← hgP]
    refine (works_any W1 (HL.out.on HW1.out.1)).mono ?_
    rintro e x1 ⟨rfl, a9⟩
    have HX1 := hideIt (And.intro (HW1.out.1.trans a9) ((a9.block gP (blk_lt HW1.out.2) (fun t => t)).trans HW1.out.2))
    clear a9 hW1 hgP
    go_wp2_with fail
    refine (HTx.out _ HX1.out.1).mono ?_
    rintro e x2 ⟨rfl, a9⟩
    have HX2 := hideIt (And.intro (HX1.out.1.trans a9) ((a9.block gP (blk_lt HX1.out.2) (fun t => t)).trans HX1.out.2))
    clear a9
    have HX := hideIt HX2.out.1
    go_wp2_with fail
    refine (HPs.out _ HX.out).mono ?_
    rintro e y1 ⟨sa, sc, rfl, -, r9, a9⟩
    have HY1 := hideIt (And.intro r9 (HX.out.trans a9))
    clear r9 a9
    by_cases hE2 : (parseA s).e = 0
    · obtain ⟨b1, b2, b3⟩ := back_parse hE2
      have hlen := (chk_parts b1).2.1
      have HBk := hideIt (And.intro b2 (And.intro b3 hlen))
      have HCk : Hid (∀ W, NRow W sa (parseA s).ns.length (parseA s).ns → Calls Tryz.prog 18 #[.slice sa (parseA s).ns.length sc, .int .i64 8] W fun e w' => e = .returned (.int .i64 0) ∧ After W w') := hideIt (fun W hr => by
        have := check_any (parseA s).ns W sa (parseA s).ns.length sc hr 8
        rw [b1] at this
        exact this)
      have HSy : Hid (∀ W, Laid W → NRow W sa (parseA s).ns.length (parseA s).ns → Calls Tryz.prog 17 #[.slice sa (parseA s).ns.length sc] W fun e w' => e = .returned (.string (S (textV (parseA s).ns))) ∧ After W w') := hideIt (fun W hL hr => says_yes b2 W hL sa sc hr)
      have HRy : Hid (∀ W, Laid W → NRow W sa (parseA s).ns.length (parseA s).ns → Calls Tryz.prog 19 #[.string (S (textV (parseA s).ns)), .slice sa (parseA s).ns.length sc] W fun e w' => e = .returned (.bool true) ∧ After W w') := hideIt (fun W hL hr => reads_yes b3 W hL (by have := textV_short (parseA s).ns; omega) sa sc hr hlen)
      rw [hE2]
      clear b1 b2 b3 hlen hE2
      generalize (parseA s).at_ = at9 at *
      generalize textV (parseA s).ns = tv9 at *
      generalize (parseA s).ns.length = n9 at *
      generalize (parseA s).ns = m9 at *
      go_wp2_with fail
      refine (HCk.out _ HY1.out.1).mono ?_
      rintro e y2 ⟨rfl, a9⟩
      have HY2 := hideIt (And.intro (HY1.out.1.after a9) (HY1.out.2.trans a9))
      clear a9
      go_wp2_with fail
      refine (HSy.out _ (HL.out.on HY2.out.2) HY2.out.1).mono ?_
      rintro e y3 ⟨rfl, a9⟩
      have HY3 := hideIt (And.intro (HY2.out.1.after a9) (HY2.out.2.trans a9))
      clear a9
      go_wp2_with fail
      refine (HRy.out _ (HL.out.on HY3.out.2) HY3.out.1).mono ?_
      rintro e y4 ⟨rfl, a9⟩
      have HY4 := hideIt (HY3.out.2.trans a9)
      clear a9
      go_wp2
      go_ret
      exact ⟨rfl, HY4.out⟩
    · have hns := parse_no hE2
      rw [hns]
      obtain ⟨E9, hE9⟩ : ∃ E, E = (parseA s).e := ⟨_, rfl⟩
      rw [← hE9] at hE2 ⊢
      have hb9 : (E9 == 0) = false := by simpa using hE2
      have hn9 : (E9 != 0) = true := by simpa using hE2
      generalize (parseA s).at_ = at9 at *
      clear hns hE9
      go_wp2_with fail
      go_ret
      exact ⟨rfl, HY1.out.2⟩
end Go.Proofs.YtlfcihanhfabmaaGreatDoor
