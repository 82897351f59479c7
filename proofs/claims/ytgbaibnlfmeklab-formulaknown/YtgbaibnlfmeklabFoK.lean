/-
  works: what it answers.
-/
import Derived.Test.YtgbaibnlfmeklabSloO
import Derived.Deep.Cut
namespace Go.Proofs.Ytgbaibnlfmeklab
open Go.RowKit
set_option maxRecDepth 8000
def highN : Nd := ⟨3, 0, 0, 0⟩
def knownN : Nd := ⟨5, 0, 0, 0⟩
theorem fourAll : ∀ l ∈ fourT, l.length = fourC.length := by decide
theorem c0 : chk [highN] (fourC.length : Int) = 0 := by decide
def s0 : ByteArray := ⟨#[48, 49, 48, 48]⟩
theorem g0 : s0 = ⟨#[48, 49, 48, 48]⟩ := rfl
theorem b0 : bitsOf (val [highN] fourC fourT (([highN] : List Nd).length - 1)) fourT.length = s0 := by kernel_rfl
theorem c1 : chk [knownN] (fourC.length : Int) = 0 := by decide
def s1 : ByteArray := ⟨#[49, 49, 48, 49]⟩
theorem g1 : s1 = ⟨#[49, 49, 48, 49]⟩ := rfl
theorem b1 : bitsOf (val [knownN] fourC fourT (([knownN] : List Nd).length - 1)) fourT.length = s1 := by kernel_rfl
theorem c2 : chk [highN, Nd.mk 10 0 0 1] (fourC.length : Int) = 0 := by decide
def s2 : ByteArray := ⟨#[48, 49, 49, 48]⟩
theorem g2 : s2 = ⟨#[48, 49, 49, 48]⟩ := rfl
theorem b2 : bitsOf (val [highN, Nd.mk 10 0 0 1] fourC fourT (([highN, Nd.mk 10 0 0 1] : List Nd).length - 1)) fourT.length = s2 := by kernel_rfl
theorem c3 : chk [knownN, highN, Nd.mk 12 0 1 0] (fourC.length : Int) = 0 := by decide
def s3 : ByteArray := ⟨#[48, 49, 48, 48]⟩
theorem g3 : s3 = ⟨#[48, 49, 48, 48]⟩ := rfl
theorem b3 : bitsOf (val [knownN, highN, Nd.mk 12 0 1 0] fourC fourT (([knownN, highN, Nd.mk 12 0 1 0] : List Nd).length - 1)) fourT.length = s3 := by kernel_rfl
theorem c4 : chk [highN, Nd.mk 9 0 0 0] (fourC.length : Int) = 0 := by decide
def s4 : ByteArray := ⟨#[48, 48, 49, 48]⟩
theorem g4 : s4 = ⟨#[48, 48, 49, 48]⟩ := rfl
theorem b4 : bitsOf (val [highN, Nd.mk 9 0 0 0] fourC fourT (([highN, Nd.mk 9 0 0 0] : List Nd).length - 1)) fourT.length = s4 := by kernel_rfl
theorem works_any (w : World) : Calls Try.prog 11 #[] w fun e w' => e = .returned (.bool true) ∧ After w w' := by
  obtain ⟨W2, hW2⟩ : ∃ W2, W2 = (w.alloc (.cells #[.int .i64 3, .int .i64 0, .int .i64 0, .int .i64 0] 28)).alloc (.cells #[.int .i64 5, .int .i64 0, .int .i64 0, .int .i64 0] 28) := ⟨_, rfl⟩
  have b1 := new_blk (w := w) (o := .cells #[.int .i64 3, .int .i64 0, .int .i64 0, .int .i64 0] 28) (After.rfl.alloc (.cells #[.int .i64 5, .int .i64 0, .int .i64 0, .int .i64 0] 28))
  have b2 := new_blk (w := w.alloc (.cells #[.int .i64 3, .int .i64 0, .int .i64 0, .int .i64 0] 28)) (o := .cells #[.int .i64 5, .int .i64 0, .int .i64 0, .int .i64 0] 28) After.rfl
  rw [size_alloc] at b2
  have HL1 : Hid (∀ V, After W2 V → (Instr.loadAt 28 (Ptr w.heap.size)).run Try.prog V = .ok highN.val V) := hideIt (fun V hV => by
    subst hW2
    have h := (hV.block _ (blk_lt b1) (fun t => t)).trans b1
    exact loadNode (x := highN) (blk_cell h rfl) (blk_cell h rfl) (blk_cell h rfl) (blk_cell h rfl))
  have HL2 : Hid (∀ V, After W2 V → (Instr.loadAt 28 (Ptr (w.heap.size + 1))).run Try.prog V = .ok knownN.val V) := hideIt (fun V hV => by
    subst hW2
    have h := (hV.block _ (blk_lt b2) (fun t => t)).trans b2
    exact loadNode (x := knownN) (blk_cell h rfl) (blk_cell h rfl) (blk_cell h rfl) (blk_cell h rfl))
  have HW : Hid (W2 = _) := hideIt hW2
  have HA : Hid (After w W2) := hideIt (by rw [hW2]; exact (After.rfl.alloc _).alloc _)
  clear b1 b2 hW2
  go_enter Try.func11, Try.ntmps11
  go_upto_region 2 with fail
  rw [← HW.out]
  refine region_slots (by kernel_rfl) [5, 6, 7, 8, 9, 10, 11, 12, 13, 14, 15, 16, 17, 18, 19, 20, 21, 22, 23, 24, 25, 26, 27, 28, 29, 30, 31, 32, 33, 34, 35, 36, 37, 38, 39, 40, 41, 0] [isPast fourC fourT, isV (highN.val), isRow ([highN]), isV (.string s0), isV (.bool true), isV (.bool true), isPast fourC fourT, isV (knownN.val), isRow ([knownN]), isV (.string s1), isV (.bool true), isV (.bool true), isV (.bool true), isPast fourC fourT, isV (highN.val), isV ((Nd.mk 10 0 0 1).val), isRow ([highN, Nd.mk 10 0 0 1]), isV (.string s2), isV (.bool true), isV (.bool true), isV (.bool true), isPast fourC fourT, isV (knownN.val), isV (highN.val), isV ((Nd.mk 12 0 1 0).val), isRow ([knownN, highN, Nd.mk 12 0 1 0]), isV (.string s3), isV (.bool true), isV (.bool true), isV (.bool true), isPast fourC fourT, isV (highN.val), isV ((Nd.mk 9 0 0 0).val), isRow ([highN, Nd.mk 9 0 0 0]), isV (.string s4), isV (.bool true), isV (.bool true), isV (.bool true)] 38 rfl rfl (stable_all (st_cons (isPast_st _ _) (st_cons (isV_st _) (st_cons (isRow_st _) (st_cons (isV_st _) (st_cons (isV_st _) (st_cons (isV_st _) (st_cons (isPast_st _ _) (st_cons (isV_st _) (st_cons (isRow_st _) (st_cons (isV_st _) (st_cons (isV_st _) (st_cons (isV_st _) (st_cons (isV_st _) (st_cons (isPast_st _ _) (st_cons (isV_st _) (st_cons (isV_st _) (st_cons (isRow_st _) (st_cons (isV_st _) (st_cons (isV_st _) (st_cons (isV_st _) (st_cons (isV_st _) (st_cons (isPast_st _ _) (st_cons (isV_st _) (st_cons (isV_st _) (st_cons (isV_st _) (st_cons (isRow_st _) (st_cons (isV_st _) (st_cons (isV_st _) (st_cons (isV_st _) (st_cons (isV_st _) (st_cons (isPast_st _ _) (st_cons (isV_st _) (st_cons (isV_st _) (st_cons (isRow_st _) (st_cons (isV_st _) (st_cons (isV_st _) (st_cons (isV_st _) (st_cons (isV_st _) (st_nil)))))))))))))))))))))))))))))))))))))))) rfl rfl ?_ ?_
  · exact ⟨⟨rfl, rfl, (.inl rfl), fun a W9 K hd hb aw hk => wp_func0 rfl (enter_of Try.func4 (by kernel_rfl) (by kernel_rfl)) ((four_any W9).mono (fun e w1 h => by obtain ⟨v, h1, h2, h3⟩ := h; exact ⟨v, h1, hk _ _ h2 h3⟩))⟩,
      ⟨rfl, rfl, (.inl rfl), fun a W9 K hd hb aw hk => wp_load rfl (show a.eval (.tmp 1) = Ptr w.heap.size from hb 1 rfl) (HL1.out W9 aw) (hk _ _ rfl After.rfl)⟩,
      ⟨rfl, rfl, (.inl rfl), fun a W9 K hd hb aw hk => by
      obtain ⟨v, w9, h1, h2, h3⟩ := rowOf1 highN W9
      exact wp_slice1 rfl (hd 1 rfl) h1 (hk _ _ h2 h3)⟩,
      ⟨rfl, rfl, (.inl rfl), fun a W9 K hd hb aw hk => wp_func2 rfl (enter_of Try.func5 (by kernel_rfl) (by kernel_rfl)) rfl rfl ((text_row (hd 0 rfl) (hd 2 rfl) (by decide) c0 fourAll b0).mono (fun e w1 h => ⟨_, h.1, hk _ _ rfl h.2⟩))⟩,
      ⟨rfl, rfl, (.inl rfl), fun a W9 K hd hb aw hk => wp_bin rfl (hd 3 rfl) rfl (by rw [g0]; exact eqS_yes _ _ _ _) (hk _ _ rfl After.rfl)⟩,
      ⟨rfl, rfl, (.inl rfl), fun a W9 K hd hb aw hk => wp_move (.inl rfl) (hd 4 rfl) (hk _ _ rfl After.rfl)⟩,
      ⟨rfl, rfl, (.inr ⟨5, true, rfl, rfl, fun v w h => h⟩), fun a W9 K hd hb aw hk => wp_func0 rfl (enter_of Try.func4 (by kernel_rfl) (by kernel_rfl)) ((four_any W9).mono (fun e w1 h => by obtain ⟨v, h1, h2, h3⟩ := h; exact ⟨v, h1, hk _ _ h2 h3⟩))⟩,
      ⟨rfl, rfl, (.inr ⟨5, true, rfl, rfl, fun v w h => h⟩), fun a W9 K hd hb aw hk => wp_load rfl (show a.eval (.tmp 2) = Ptr (w.heap.size + 1) from hb 2 rfl) (HL2.out W9 aw) (hk _ _ rfl After.rfl)⟩,
      ⟨rfl, rfl, (.inr ⟨5, true, rfl, rfl, fun v w h => h⟩), fun a W9 K hd hb aw hk => by
      obtain ⟨v, w9, h1, h2, h3⟩ := rowOf1 knownN W9
      exact wp_slice1 rfl (hd 7 rfl) h1 (hk _ _ h2 h3)⟩,
      ⟨rfl, rfl, (.inr ⟨5, true, rfl, rfl, fun v w h => h⟩), fun a W9 K hd hb aw hk => wp_func2 rfl (enter_of Try.func5 (by kernel_rfl) (by kernel_rfl)) rfl rfl ((text_row (hd 6 rfl) (hd 8 rfl) (by decide) c1 fourAll b1).mono (fun e w1 h => ⟨_, h.1, hk _ _ rfl h.2⟩))⟩,
      ⟨rfl, rfl, (.inr ⟨5, true, rfl, rfl, fun v w h => h⟩), fun a W9 K hd hb aw hk => wp_bin rfl (hd 9 rfl) rfl (by rw [g1]; exact eqS_yes _ _ _ _) (hk _ _ rfl After.rfl)⟩,
      ⟨rfl, rfl, (.inl rfl), fun a W9 K hd hb aw hk => wp_pickT rfl (hd 5 rfl) (hd 10 rfl) (hk _ _ rfl After.rfl)⟩,
      ⟨rfl, rfl, (.inl rfl), fun a W9 K hd hb aw hk => wp_move (.inl rfl) (hd 11 rfl) (hk _ _ rfl After.rfl)⟩,
      ⟨rfl, rfl, (.inr ⟨12, true, rfl, rfl, fun v w h => h⟩), fun a W9 K hd hb aw hk => wp_func0 rfl (enter_of Try.func4 (by kernel_rfl) (by kernel_rfl)) ((four_any W9).mono (fun e w1 h => by obtain ⟨v, h1, h2, h3⟩ := h; exact ⟨v, h1, hk _ _ h2 h3⟩))⟩,
      ⟨rfl, rfl, (.inr ⟨12, true, rfl, rfl, fun v w h => h⟩), fun a W9 K hd hb aw hk => wp_load rfl (show a.eval (.tmp 1) = Ptr w.heap.size from hb 1 rfl) (HL1.out W9 aw) (hk _ _ rfl After.rfl)⟩,
      ⟨rfl, rfl, (.inr ⟨12, true, rfl, rfl, fun v w h => h⟩), fun a W9 K hd hb aw hk => wp_build2 rfl rfl rfl (bn03 _ _ _) (hk _ _ rfl After.rfl)⟩,
      ⟨rfl, rfl, (.inr ⟨12, true, rfl, rfl, fun v w h => h⟩), fun a W9 K hd hb aw hk => by
      obtain ⟨v, w9, h1, h2, h3⟩ := rowOf2 highN (Nd.mk 10 0 0 1) W9
      exact wp_slice2 rfl (hd 14 rfl) (hd 15 rfl) h1 (hk _ _ h2 h3)⟩,
      ⟨rfl, rfl, (.inr ⟨12, true, rfl, rfl, fun v w h => h⟩), fun a W9 K hd hb aw hk => wp_func2 rfl (enter_of Try.func5 (by kernel_rfl) (by kernel_rfl)) rfl rfl ((text_row (hd 13 rfl) (hd 16 rfl) (by decide) c2 fourAll b2).mono (fun e w1 h => ⟨_, h.1, hk _ _ rfl h.2⟩))⟩,
      ⟨rfl, rfl, (.inr ⟨12, true, rfl, rfl, fun v w h => h⟩), fun a W9 K hd hb aw hk => wp_bin rfl (hd 17 rfl) rfl (by rw [g2]; exact eqS_yes _ _ _ _) (hk _ _ rfl After.rfl)⟩,
      ⟨rfl, rfl, (.inl rfl), fun a W9 K hd hb aw hk => wp_pickT rfl (hd 12 rfl) (hd 18 rfl) (hk _ _ rfl After.rfl)⟩,
      ⟨rfl, rfl, (.inl rfl), fun a W9 K hd hb aw hk => wp_move (.inl rfl) (hd 19 rfl) (hk _ _ rfl After.rfl)⟩,
      ⟨rfl, rfl, (.inr ⟨20, true, rfl, rfl, fun v w h => h⟩), fun a W9 K hd hb aw hk => wp_func0 rfl (enter_of Try.func4 (by kernel_rfl) (by kernel_rfl)) ((four_any W9).mono (fun e w1 h => by obtain ⟨v, h1, h2, h3⟩ := h; exact ⟨v, h1, hk _ _ h2 h3⟩))⟩,
      ⟨rfl, rfl, (.inr ⟨20, true, rfl, rfl, fun v w h => h⟩), fun a W9 K hd hb aw hk => wp_load rfl (show a.eval (.tmp 2) = Ptr (w.heap.size + 1) from hb 2 rfl) (HL2.out W9 aw) (hk _ _ rfl After.rfl)⟩,
      ⟨rfl, rfl, (.inr ⟨20, true, rfl, rfl, fun v w h => h⟩), fun a W9 K hd hb aw hk => wp_load rfl (show a.eval (.tmp 1) = Ptr w.heap.size from hb 1 rfl) (HL1.out W9 aw) (hk _ _ rfl After.rfl)⟩,
      ⟨rfl, rfl, (.inr ⟨20, true, rfl, rfl, fun v w h => h⟩), fun a W9 K hd hb aw hk => wp_build3 rfl rfl rfl rfl (bn012 _ _ _ _) (hk _ _ rfl After.rfl)⟩,
      ⟨rfl, rfl, (.inr ⟨20, true, rfl, rfl, fun v w h => h⟩), fun a W9 K hd hb aw hk => by
      obtain ⟨v, w9, h1, h2, h3⟩ := rowOf3 knownN highN (Nd.mk 12 0 1 0) W9
      exact wp_slice3 rfl (hd 22 rfl) (hd 23 rfl) (hd 24 rfl) h1 (hk _ _ h2 h3)⟩,
      ⟨rfl, rfl, (.inr ⟨20, true, rfl, rfl, fun v w h => h⟩), fun a W9 K hd hb aw hk => wp_func2 rfl (enter_of Try.func5 (by kernel_rfl) (by kernel_rfl)) rfl rfl ((text_row (hd 21 rfl) (hd 25 rfl) (by decide) c3 fourAll b3).mono (fun e w1 h => ⟨_, h.1, hk _ _ rfl h.2⟩))⟩,
      ⟨rfl, rfl, (.inr ⟨20, true, rfl, rfl, fun v w h => h⟩), fun a W9 K hd hb aw hk => wp_bin rfl (hd 26 rfl) rfl (by rw [g3]; exact eqS_yes _ _ _ _) (hk _ _ rfl After.rfl)⟩,
      ⟨rfl, rfl, (.inl rfl), fun a W9 K hd hb aw hk => wp_pickT rfl (hd 20 rfl) (hd 27 rfl) (hk _ _ rfl After.rfl)⟩,
      ⟨rfl, rfl, (.inl rfl), fun a W9 K hd hb aw hk => wp_move (.inl rfl) (hd 28 rfl) (hk _ _ rfl After.rfl)⟩,
      ⟨rfl, rfl, (.inr ⟨29, true, rfl, rfl, fun v w h => h⟩), fun a W9 K hd hb aw hk => wp_func0 rfl (enter_of Try.func4 (by kernel_rfl) (by kernel_rfl)) ((four_any W9).mono (fun e w1 h => by obtain ⟨v, h1, h2, h3⟩ := h; exact ⟨v, h1, hk _ _ h2 h3⟩))⟩,
      ⟨rfl, rfl, (.inr ⟨29, true, rfl, rfl, fun v w h => h⟩), fun a W9 K hd hb aw hk => wp_load rfl (show a.eval (.tmp 1) = Ptr w.heap.size from hb 1 rfl) (HL1.out W9 aw) (hk _ _ rfl After.rfl)⟩,
      ⟨rfl, rfl, (.inr ⟨29, true, rfl, rfl, fun v w h => h⟩), fun a W9 K hd hb aw hk => wp_build1 rfl rfl (bn0 _ _) (hk _ _ rfl After.rfl)⟩,
      ⟨rfl, rfl, (.inr ⟨29, true, rfl, rfl, fun v w h => h⟩), fun a W9 K hd hb aw hk => by
      obtain ⟨v, w9, h1, h2, h3⟩ := rowOf2 highN (Nd.mk 9 0 0 0) W9
      exact wp_slice2 rfl (hd 31 rfl) (hd 32 rfl) h1 (hk _ _ h2 h3)⟩,
      ⟨rfl, rfl, (.inr ⟨29, true, rfl, rfl, fun v w h => h⟩), fun a W9 K hd hb aw hk => wp_func2 rfl (enter_of Try.func5 (by kernel_rfl) (by kernel_rfl)) rfl rfl ((text_row (hd 30 rfl) (hd 33 rfl) (by decide) c4 fourAll b4).mono (fun e w1 h => ⟨_, h.1, hk _ _ rfl h.2⟩))⟩,
      ⟨rfl, rfl, (.inr ⟨29, true, rfl, rfl, fun v w h => h⟩), fun a W9 K hd hb aw hk => wp_bin rfl (hd 34 rfl) rfl (by rw [g4]; exact eqS_yes _ _ _ _) (hk _ _ rfl After.rfl)⟩,
      ⟨rfl, rfl, (.inl rfl), fun a W9 K hd hb aw hk => wp_pickT rfl (hd 29 rfl) (hd 35 rfl) (hk _ _ rfl After.rfl)⟩,
      ⟨rfl, rfl, (.inl rfl), fun a W9 K hd hb aw hk => wp_move (.inr rfl) (hd 36 rfl) (hk _ _ rfl After.rfl)⟩,
      trivial⟩
  intro x9 w9 hx9 aw9
  have t1 : x9 1 = highN.val := hx9 1 (Nat.le_of_ble_eq_true rfl)
  have t3 : x9 3 = .string s0 := hx9 3 (Nat.le_of_ble_eq_true rfl)
  have t4 : x9 4 = .bool true := hx9 4 (Nat.le_of_ble_eq_true rfl)
  have t5 : x9 5 = .bool true := hx9 5 (Nat.le_of_ble_eq_true rfl)
  have t7 : x9 7 = knownN.val := hx9 7 (Nat.le_of_ble_eq_true rfl)
  have t9 : x9 9 = .string s1 := hx9 9 (Nat.le_of_ble_eq_true rfl)
  have t10 : x9 10 = .bool true := hx9 10 (Nat.le_of_ble_eq_true rfl)
  have t11 : x9 11 = .bool true := hx9 11 (Nat.le_of_ble_eq_true rfl)
  have t12 : x9 12 = .bool true := hx9 12 (Nat.le_of_ble_eq_true rfl)
  have t14 : x9 14 = highN.val := hx9 14 (Nat.le_of_ble_eq_true rfl)
  have t15 : x9 15 = (Nd.mk 10 0 0 1).val := hx9 15 (Nat.le_of_ble_eq_true rfl)
  have t17 : x9 17 = .string s2 := hx9 17 (Nat.le_of_ble_eq_true rfl)
  have t18 : x9 18 = .bool true := hx9 18 (Nat.le_of_ble_eq_true rfl)
  have t19 : x9 19 = .bool true := hx9 19 (Nat.le_of_ble_eq_true rfl)
  have t20 : x9 20 = .bool true := hx9 20 (Nat.le_of_ble_eq_true rfl)
  have t22 : x9 22 = knownN.val := hx9 22 (Nat.le_of_ble_eq_true rfl)
  have t23 : x9 23 = highN.val := hx9 23 (Nat.le_of_ble_eq_true rfl)
  have t24 : x9 24 = (Nd.mk 12 0 1 0).val := hx9 24 (Nat.le_of_ble_eq_true rfl)
  have t26 : x9 26 = .string s3 := hx9 26 (Nat.le_of_ble_eq_true rfl)
  have t27 : x9 27 = .bool true := hx9 27 (Nat.le_of_ble_eq_true rfl)
  have t28 : x9 28 = .bool true := hx9 28 (Nat.le_of_ble_eq_true rfl)
  have t29 : x9 29 = .bool true := hx9 29 (Nat.le_of_ble_eq_true rfl)
  have t31 : x9 31 = highN.val := hx9 31 (Nat.le_of_ble_eq_true rfl)
  have t32 : x9 32 = (Nd.mk 9 0 0 0).val := hx9 32 (Nat.le_of_ble_eq_true rfl)
  have t34 : x9 34 = .string s4 := hx9 34 (Nat.le_of_ble_eq_true rfl)
  have t35 : x9 35 = .bool true := hx9 35 (Nat.le_of_ble_eq_true rfl)
  have t36 : x9 36 = .bool true := hx9 36 (Nat.le_of_ble_eq_true rfl)
  have t37 : x9 37 = .bool true := hx9 37 (Nat.le_of_ble_eq_true rfl)
  simp only [sets, List.getD_cons_succ, List.getD_cons_zero, List.set_cons_succ, List.set_cons_zero, t1, t3, t4, t5, t7, t9, t10, t11, t12, t14, t15, t17, t18, t19, t20, t22, t23, t24, t26, t27, t28, t29, t31, t32, t34, t35, t36, t37]
  clear hx9 t1 t3 t4 t5 t7 t9 t10 t11 t12 t14 t15 t17 t18 t19 t20 t22 t23 t24 t26 t27 t28 t29 t31 t32 t34 t35 t36 t37
  generalize x9 0 = y0
  generalize x9 2 = y2
  generalize x9 6 = y6
  generalize x9 8 = y8
  generalize x9 13 = y13
  generalize x9 16 = y16
  generalize x9 21 = y21
  generalize x9 25 = y25
  generalize x9 30 = y30
  generalize x9 33 = y33
  clear x9
  go_wp2
  go_ret
  exact ⟨rfl, HA.out.trans aw9⟩
end Go.Proofs.Ytgbaibnlfmeklab
