/-
  holds: of a node that keeps a number, of an atom.
-/
import Derived.Test.YthgmjeljjladhaaRuH
import Derived.Deep.RegionHeld3
namespace Go.Proofs.Ythgmjeljjladhaa
open Go.RowKit
set_option maxRecDepth 8000
theorem indexK (w : World) (b off n c k : Nat) (hk : (k : Int) < (n : Int)) : (Instr.indexAt 59 (.slice (some ⟨b, off, none⟩) n c) (.int .i64 (k : Int))).run Try.prog w = .ok (.pointer (some ⟨b, off + k, none⟩)) w := by
  simp [go_sem, hk]
theorem fieldK (g j : Nat) (w : World) : (Instr.fieldAt 66 (.pointer (some ⟨g, j, none⟩)) 0).run Try.prog w = .ok (.pointer (some ⟨g, j, none⟩)) w := by
  simp [go_sem]
theorem loadF {w : World} {g i f : Nat} {cs : Array Value} (h0 : w.cell? ⟨g, i, none⟩ = some (.func (.func f) #[] cs)) : (Instr.loadAt 64 (.pointer (some ⟨g, i, none⟩))).run Try.prog w = .ok (.func (.func f) #[] cs) w := by
  simp [go_sem, h0]
theorem loadB {w : World} {g i : Nat} {b : Bool} (h0 : w.cell? ⟨g, i, none⟩ = some (.bool b)) : (Instr.loadAt 4 (.pointer (some ⟨g, i, none⟩))).run Try.prog w = .ok (.bool b) w := by
  simp [go_sem, h0]
/-- The keeper's step, whichever it is. -/
theorem Kp.step {w : World} {lo hi : Nat} {x : Nd} {z : Int} {v : Kv} (h : Kp w lo hi x z v) (hop : 9 ≤ x.op ∧ x.op ≤ 12) (hz : 0 ≤ z ∧ z ≤ 64) : ∃ f cs, v = ⟨some f, cs⟩ ∧ (∀ args W, (callFunc f args).run Try.prog W = .ok (.enter f args) W) ∧ ∀ W, After w W → ∀ a b, ∃ q, lo ≤ q ∧ q < hi ∧ IntB W q z ∧
    Calls Try.prog f (#[.bool a, .bool b] ++ cs) W fun r w' => r = .returned (.bool (ansK x z a b)) ∧ Kp w' lo hi x (nxtK x z a b) v ∧ But (One q) W w' := by
  rcases (by omega : x.op = 9 ∨ x.op = 10 ∨ x.op = 11 ∨ x.op = 12) with e | e | e | e
  · obtain ⟨q0, v0, _⟩ := h.step9 e false false
    refine ⟨_, _, v0, enter_of Try.func48 (by kernel_rfl) (by kernel_rfl), fun W hW a b => ?_⟩
    obtain ⟨q, v1, h1, h2, h3, h4⟩ := (h.after hW).step9 e a b
    rw [v0] at v1
    simp at v1
    subst v1
    exact ⟨q0, h1, h2, h3, h4⟩
  · obtain ⟨p0, q0, v0, _⟩ := h.step10 e hz false false
    refine ⟨_, _, v0, enter_of Try.func50 (by kernel_rfl) (by kernel_rfl), fun W hW a b => ?_⟩
    obtain ⟨p, q, v1, h1, h2, h3, h4⟩ := (h.after hW).step10 e hz a b
    rw [v0] at v1
    simp at v1
    obtain ⟨rfl, rfl⟩ := v1
    exact ⟨q0, h1, h2, h3, h4⟩
  · obtain ⟨q0, r0, v0, _⟩ := h.step11 e hz false false
    refine ⟨_, _, v0, enter_of Try.func51 (by kernel_rfl) (by kernel_rfl), fun W hW a b => ?_⟩
    obtain ⟨q, r, v1, h1, h2, h3, h4⟩ := (h.after hW).step11 e hz a b
    rw [v0] at v1
    simp at v1
    subst v1
    exact ⟨q, h1, h2, h3, h4⟩
  · obtain ⟨q0, v0, _⟩ := h.step12 e false false
    refine ⟨_, _, v0, enter_of Try.func52 (by kernel_rfl) (by kernel_rfl), fun W hW a b => ?_⟩
    obtain ⟨q, v1, h1, h2, h3, h4⟩ := (h.after hW).step12 e a b
    rw [v0] at v1
    simp at v1
    subst v1
    exact ⟨q0, h1, h2, h3, h4⟩
set_option maxHeartbeats 2000000 in
theorem holds_K {w : World} {lo hi : Nat} {m : Mp} {L : List Nd} {C : List Ch} {Z : Nat → Int} {T : List (List Rd)} {t i : Nat} {g : Nat} {l : List Bool} {ar : Option Addr} {cr : Nat} {R : List Rd} {op : Int} {ja jb : Nat} {n : Int} (hop : 9 ≤ op ∧ op ≤ 12) (h : Asked w lo hi m L C Z T t i ⟨op, (ja : Int), (jb : Int), n⟩ g l ar R) (hja : ja < i) (hjb : jb < i) :
    Calls Try.prog 30 #[Ptr m.p, .int .i64 (i : Int), .slice (some ⟨g, 0, none⟩) L.length L.length, .slice ar C.length cr] w (Said w lo hi m L C Z T t i) := by
  obtain ⟨nb, noff, cn, ⟨c0, c1, c2, k0, k1, k2, k3, lt⟩⟩ := h.heads
  obtain ⟨n1, n2⟩ := h.now hja
  obtain ⟨n3, n4⟩ := h.now hjb
  obtain ⟨v, hv1, hv2⟩ := h.mc.q.ks i _ h.hx (by rw [h.mc.len]; exact h.lt)
  have hz0 := zOf_bound h.ok C T h.hx t
  rw [← h.hz] at hz0
  obtain ⟨f, cs, rfl, hf, hst⟩ := hv2.step hop hz0
  obtain ⟨ak, ck, ek, hgk, _, _⟩ := ORow.row h.mc.q.ok
  rw [h.mc.len] at ek hgk
  obtain ⟨kb, koff, vv, rfl, hkb, hvv, hkc⟩ := hgk.2 i h.lt
  rw [hv1] at hvv
  cases hvv
  have c3 := hkc 0 _ rfl
  rw [Nat.add_zero, show kvE.k = 1 from rfl, Nat.mul_one] at c3
  have c3 : w.cell? ⟨kb, koff + i, none⟩ = some (.func (.func f) #[] cs) := c3
  rw [ek] at c2
  obtain ⟨U, hU⟩ : ∃ U, U = w.alloc (.cells #[.int .i64 op, .int .i64 (ja : Int), .int .i64 (jb : Int), .int .i64 n] 38) := ⟨_, rfl⟩
  have aU : After w U := by rw [hU]; exact After.rfl.alloc _
  have x1 : U.cell? ⟨w.heap.size, 1, none⟩ = some (.int .i64 (ja : Int)) := by rw [hU]; exact new_cell After.rfl 1 rfl
  have x2 : U.cell? ⟨w.heap.size, 2, none⟩ = some (.int .i64 (jb : Int)) := by rw [hU]; exact new_cell After.rfl 2 rfl
  have HE : Hid (∀ W w1 q, After w W → m.b i ≤ q → q < m.b (i + 1) → IntB W q (Z i) → But (One q) W w1 → Kp w1 (m.b i) (m.b (i + 1)) ⟨op, (ja : Int), (jb : Int), n⟩ (nxtK ⟨op, (ja : Int), (jb : Int), n⟩ (Z i) (val L C T ja t) (val L C T jb t)) ⟨some f, cs⟩ → Said w lo hi m L C Z T t i (.returned (.bool (ansK ⟨op, (ja : Int), (jb : Int), n⟩ (Z i) (val L C T ja t) (val L C T jb t)))) w1) := hideIt (fun W w1 q aW q1 q2 q3 q4 q5 => by
    refine ⟨?_, ?_, aW.but.then q4 (fun k _ e => ?_)⟩
    · rw [h.hz]
      exact ret_bool (val_ans h.ok C T h.hx hop.1 t)
    · have e1 : nxtK ⟨op, (ja : Int), (jb : Int), n⟩ (Z i) (val L C T ja t) (val L C T jb t) = zOf L C T (t + 1) i := by
        rw [zOf_succ h.hx, h.hz]
        rfl
      rw [e1] at q5
      exact (h.mc.after aW).step h.hx hv1 q1 q2 q3 q4 q5
    · have e : k = q := e
      rw [e]
      exact ⟨Nat.le_trans h.mc.q.b0 (Nat.le_trans (h.mc.q.mono 0 i (by omega)) q1), Nat.lt_of_lt_of_le q2 (h.mc.q.bh _)⟩)
  have HS : Hid (∀ W, After w W → ∃ q, m.b i ≤ q ∧ q < m.b (i + 1) ∧ IntB W q (Z i) ∧ Calls Try.prog f (#[.bool (val L C T ja t), .bool (val L C T jb t)] ++ cs) W fun r w' => r = .returned (.bool (ansK ⟨op, (ja : Int), (jb : Int), n⟩ (Z i) (val L C T ja t) (val L C T jb t))) ∧ Kp w' (m.b i) (m.b (i + 1)) ⟨op, (ja : Int), (jb : Int), n⟩ (nxtK ⟨op, (ja : Int), (jb : Int), n⟩ (Z i) (val L C T ja t) (val L C T jb t)) ⟨some f, cs⟩ ∧ But (One q) W w') := hideIt (fun W hW => hst W hW _ _)
  have hp := cell_lt c0
  have hn := cell_lt k0
  have hg := cell_lt n1
  simp only at k0 k1 k2 k3
  generalize val L C T ja t = PA at *
  generalize val L C T jb t = PB at *
  have HC : Hid ((∀ V, After U V → V.cell? ⟨m.p, 2, none⟩ = some (.slice (some ⟨kb, koff, none⟩) L.length ck)) ∧ (∀ V, After U V → V.cell? ⟨kb, koff + i, none⟩ = some (.func (.func f) #[] cs)) ∧ (∀ V, After U V → V.cell? ⟨w.heap.size, 1, none⟩ = some (.int .i64 (ja : Int))) ∧ (∀ V, After U V → V.cell? ⟨w.heap.size, 2, none⟩ = some (.int .i64 (jb : Int))) ∧ (∀ V, After U V → V.cell? ⟨g, ja, none⟩ = some (.bool PA)) ∧ (∀ V, After U V → V.cell? ⟨g, jb, none⟩ = some (.bool PB))) := hideIt ⟨fun V hV => ((aU.trans hV).cell (cell_lt c2) _).trans c2, fun V hV => ((aU.trans hV).cell (cell_lt c3) _).trans c3, fun V hV => (hV.cell (cell_lt x1) _).trans x1, fun V hV => (hV.cell (cell_lt x2) _).trans x2, fun V hV => ((aU.trans hV).cell (cell_lt n1) _).trans n1, fun V hV => ((aU.trans hV).cell (cell_lt n3) _).trans n3⟩
  have HU := hideIt (And.intro hU aU)
  have HF := hideIt hf
  clear h hU aU x1 x2 c1 c2 c3 hkc hv1 hv2 hst hz0 ek hkb n1 n3 hf hgk
  generalize ansK ⟨op, (ja : Int), (jb : Int), n⟩ (Z i) PA PB = ANS at *
  generalize nxtK ⟨op, (ja : Int), (jb : Int), n⟩ (Z i) PA PB = NX at *
  rcases (by omega : op = 9 ∨ op = 10 ∨ op = 11 ∨ op = 12) with rfl | rfl | rfl | rfl
  all_goals
    clear hop
    go_enter Try.func30, Try.ntmps30
    go_upto_region 15 with fail
    rw [← HU.out.1]
    refine region_two (by kernel_rfl) [64, 65, 66, 67, 68, 69, 70, 71, 72, 73, 74, 75, 76, 77, 78, 79, 80, 81] [isV (Ptr m.p), isV (Ptr m.p), isV (.pointer (some ⟨m.p, 2, none⟩)), isV (.slice (some ⟨kb, koff, none⟩) L.length ck), isV (.int .i64 (i : Int)), isV (.pointer (some ⟨kb, koff + i, none⟩)), isV (.pointer (some ⟨kb, koff + i, none⟩)), isV (.func (.func f) #[] cs), isV (.slice (some ⟨g, 0, none⟩) L.length L.length), isV (.pointer (some ⟨w.heap.size, 1, none⟩)), isV (.int .i64 (ja : Int)), isV (.pointer (some ⟨g, ja, none⟩)), isV (.bool PA), isV (.slice (some ⟨g, 0, none⟩) L.length L.length), isV (.pointer (some ⟨w.heap.size, 2, none⟩)), isV (.int .i64 (jb : Int)), isV (.pointer (some ⟨g, jb, none⟩)), isV (.bool PB)] 18 _ _ rfl rfl rfl rfl rfl rfl rfl rfl 12 rfl rfl (stable_all (st_cons (isV_st _) (st_cons (isV_st _) (st_cons (isV_st _) (st_cons (isV_st _) (st_cons (isV_st _) (st_cons (isV_st _) (st_cons (isV_st _) (st_cons (isV_st _) (st_cons (isV_st _) (st_cons (isV_st _) (st_cons (isV_st _) (st_cons (isV_st _) (st_cons (isV_st _) (st_cons (isV_st _) (st_cons (isV_st _) (st_cons (isV_st _) (st_cons (isV_st _) (st_cons (isV_st _) (st_nil)))))))))))))))))))) rfl rfl ?_ ?_
    · exact ⟨⟨rfl, rfl, (.inl rfl), fun a W9 K hd hb aw hk => wp_move (.inl rfl) (show a.eval (.tmp 0) = Ptr m.p from hb 0 rfl) (hk _ _ rfl After.rfl)⟩,
        ⟨rfl, rfl, (.inl rfl), fun a W9 K hd hb aw hk => wp_nil rfl (hd 0 rfl) (hk _ _ rfl After.rfl)⟩,
        ⟨rfl, rfl, (.inl rfl), fun a W9 K hd hb aw hk => wp_field rfl (hd 1 rfl) (fieldM _ _ 2 (by decide)) (hk _ _ rfl After.rfl)⟩,
        ⟨rfl, rfl, (.inl rfl), fun a W9 K hd hb aw hk => wp_load rfl (hd 2 rfl) (loadKs (HC.out.1 W9 aw)) (hk _ _ rfl After.rfl)⟩,
        ⟨rfl, rfl, (.inl rfl), fun a W9 K hd hb aw hk => wp_move (.inl rfl) (show a.eval (.tmp 1) = .int .i64 (i : Int) from hb 1 rfl) (hk _ _ rfl After.rfl)⟩,
        ⟨rfl, rfl, (.inl rfl), fun a W9 K hd hb aw hk => wp_index rfl (hd 3 rfl) (hd 4 rfl) (indexK _ _ _ _ _ _ lt) (hk _ _ rfl After.rfl)⟩,
        ⟨rfl, rfl, (.inl rfl), fun a W9 K hd hb aw hk => wp_field rfl (hd 5 rfl) (fieldK _ _ _) (hk _ _ rfl After.rfl)⟩,
        ⟨rfl, rfl, (.inl rfl), fun a W9 K hd hb aw hk => wp_load rfl (hd 6 rfl) (loadF (HC.out.2.1 W9 aw)) (hk _ _ rfl After.rfl)⟩,
        ⟨rfl, rfl, (.inl rfl), fun a W9 K hd hb aw hk => wp_move (.inl rfl) (show a.eval (.tmp 2) = .slice (some ⟨g, 0, none⟩) L.length L.length from hb 2 rfl) (hk _ _ rfl After.rfl)⟩,
        ⟨rfl, rfl, (.inl rfl), fun a W9 K hd hb aw hk => wp_field rfl (show a.eval (.tmp 9) = Ptr w.heap.size from hb 9 rfl) (fieldN _ _ 1 (by decide)) (hk _ _ rfl After.rfl)⟩,
        ⟨rfl, rfl, (.inl rfl), fun a W9 K hd hb aw hk => wp_load rfl (hd 9 rfl) (loadI (HC.out.2.2.1 W9 aw)) (hk _ _ rfl After.rfl)⟩,
        ⟨rfl, rfl, (.inl rfl), fun a W9 K hd hb aw hk => wp_index rfl (hd 8 rfl) (hd 10 rfl) (indexB0 _ _ _ _ _ n2) (hk _ _ rfl After.rfl)⟩,
        ⟨rfl, rfl, (.inl rfl), fun a W9 K hd hb aw hk => wp_load rfl (hd 11 rfl) (loadB (HC.out.2.2.2.2.1 W9 aw)) (hk _ _ rfl After.rfl)⟩,
        ⟨rfl, rfl, (.inl rfl), fun a W9 K hd hb aw hk => wp_move (.inl rfl) (show a.eval (.tmp 2) = .slice (some ⟨g, 0, none⟩) L.length L.length from hb 2 rfl) (hk _ _ rfl After.rfl)⟩,
        ⟨rfl, rfl, (.inl rfl), fun a W9 K hd hb aw hk => wp_field rfl (show a.eval (.tmp 9) = Ptr w.heap.size from hb 9 rfl) (fieldN _ _ 2 (by decide)) (hk _ _ rfl After.rfl)⟩,
        ⟨rfl, rfl, (.inl rfl), fun a W9 K hd hb aw hk => wp_load rfl (hd 14 rfl) (loadI (HC.out.2.2.2.1 W9 aw)) (hk _ _ rfl After.rfl)⟩,
        ⟨rfl, rfl, (.inl rfl), fun a W9 K hd hb aw hk => wp_index rfl (hd 13 rfl) (hd 15 rfl) (indexB0 _ _ _ _ _ n4) (hk _ _ rfl After.rfl)⟩,
        ⟨rfl, rfl, (.inl rfl), fun a W9 K hd hb aw hk => wp_load rfl (hd 16 rfl) (loadB (HC.out.2.2.2.2.2 W9 aw)) (hk _ _ rfl After.rfl)⟩,
        trivial⟩
    intro x9 w9 hx9 aw9 K9 hK9
    have t0 : x9 0 = Ptr m.p := hx9 0 (Nat.le_of_ble_eq_true rfl)
    have t1 : x9 1 = Ptr m.p := hx9 1 (Nat.le_of_ble_eq_true rfl)
    have t2 : x9 2 = .pointer (some ⟨m.p, 2, none⟩) := hx9 2 (Nat.le_of_ble_eq_true rfl)
    have t3 : x9 3 = .slice (some ⟨kb, koff, none⟩) L.length ck := hx9 3 (Nat.le_of_ble_eq_true rfl)
    have t4 : x9 4 = .int .i64 (i : Int) := hx9 4 (Nat.le_of_ble_eq_true rfl)
    have t5 : x9 5 = .pointer (some ⟨kb, koff + i, none⟩) := hx9 5 (Nat.le_of_ble_eq_true rfl)
    have t6 : x9 6 = .pointer (some ⟨kb, koff + i, none⟩) := hx9 6 (Nat.le_of_ble_eq_true rfl)
    have t7 : x9 7 = .func (.func f) #[] cs := hx9 7 (Nat.le_of_ble_eq_true rfl)
    have t8 : x9 8 = .slice (some ⟨g, 0, none⟩) L.length L.length := hx9 8 (Nat.le_of_ble_eq_true rfl)
    have t9 : x9 9 = .pointer (some ⟨w.heap.size, 1, none⟩) := hx9 9 (Nat.le_of_ble_eq_true rfl)
    have t10 : x9 10 = .int .i64 (ja : Int) := hx9 10 (Nat.le_of_ble_eq_true rfl)
    have t11 : x9 11 = .pointer (some ⟨g, ja, none⟩) := hx9 11 (Nat.le_of_ble_eq_true rfl)
    have t12 : x9 12 = .bool PA := hx9 12 (Nat.le_of_ble_eq_true rfl)
    have t13 : x9 13 = .slice (some ⟨g, 0, none⟩) L.length L.length := hx9 13 (Nat.le_of_ble_eq_true rfl)
    have t14 : x9 14 = .pointer (some ⟨w.heap.size, 2, none⟩) := hx9 14 (Nat.le_of_ble_eq_true rfl)
    have t15 : x9 15 = .int .i64 (jb : Int) := hx9 15 (Nat.le_of_ble_eq_true rfl)
    have t16 : x9 16 = .pointer (some ⟨g, jb, none⟩) := hx9 16 (Nat.le_of_ble_eq_true rfl)
    have t17 : x9 17 = .bool PB := hx9 17 (Nat.le_of_ble_eq_true rfl)
    simp only [sets, List.getD_cons_succ, List.getD_cons_zero, List.set_cons_succ, List.set_cons_zero, t0, t1, t2, t3, t4, t5, t6, t7, t8, t9, t10, t11, t12, t13, t14, t15, t16, t17]
    clear hx9 t0 t1 t2 t3 t4 t5 t6 t7 t8 t9 t10 t11 t12 t13 t14 t15 t16 t17 x9
    obtain ⟨q, q1, q2, q3, q4⟩ := HS.out w9 (HU.out.2.trans aw9)
    refine wp_funcV2 rfl rfl HF.out rfl rfl (q4.mono ?_)
    rintro e w1 ⟨rfl, q5, q6⟩
    refine ⟨_, rfl, hK9 _ _ (fun K2 hK2 => wp_move (.inr rfl) rfl (hK2 _ _ ?_))⟩
    have HG := hideIt (HE.out w9 w1 q (HU.out.2.trans aw9) q1 q2 q3 q6 q5)
    clear q1 q2 q3 q4 q5 q6 aw9 hK9 hK2 HS HE HC HF HU
    generalize Said w lo hi m L C Z T t i = SD at *
    change Exit.then _ _ _ ((Act.put _ (some 82) _).put (some 8) _) _
    go_wp2_with fail
    go_ret
    exact HG.out
theorem loadCs {w : World} {g i : Nat} {a : Option Addr} {n c : Nat} (h0 : w.cell? ⟨g, i, none⟩ = some (.slice a n c)) : (Instr.loadAt 23 (.pointer (some ⟨g, i, none⟩))).run Try.prog w = .ok (.slice a n c) w := by
  simp [go_sem, h0]
set_option maxHeartbeats 2000000 in
theorem holds_A {w : World} {lo hi : Nat} {m : Mp} {L : List Nd} {C : List Ch} {Z : Nat → Int} {T : List (List Rd)} {t i : Nat} {g : Nat} {l : List Bool} {ar : Option Addr} {cr : Nat} {R : List Rd} {op : Int} {ja : Nat} {b n : Int} (hop : 1 ≤ op ∧ op ≤ 5) (h : Asked w lo hi m L C Z T t i ⟨op, (ja : Int), b, n⟩ g l ar R) (hja : ja < C.length) :
    Calls Try.prog 30 #[Ptr m.p, .int .i64 (i : Int), .slice (some ⟨g, 0, none⟩) L.length L.length, .slice ar C.length cr] w (Said w lo hi m L C Z T t i) := by
  obtain ⟨nb, noff, cn, ⟨c0, c1, c2, k0, k1, k2, k3, lt⟩⟩ := h.heads
  obtain ⟨ac, cc, ec, hgc, _, _⟩ := ORow.row h.mc.q.oc
  obtain ⟨cb, coff, ch, rfl, hcb, hch, m0, m1, m2, m3, m4, m5, m6⟩ := crow_at hgc hja
  obtain ⟨rb, roff, rd, rfl, hrb, hrd, r0, r1⟩ := drow_at h.dr hja
  rw [ec] at c1
  have hat : atomic op = true := by simp [atomic]; exact hop
  have hval : val L C T i t = atom ⟨op, (ja : Int), b, n⟩ ch rd := by
    rw [val_eq h.ok C T h.hx]
    unfold stepv
    simp only
    rw [if_neg (by omega), if_neg (by omega), if_neg (by omega), if_neg (by omega), if_neg (by omega), if_neg (by omega), if_neg (by omega), if_neg (by omega), h.tr]
    simp [List.getD, hch, hrd]
  unfold Said
  rw [hval]
  have HH := hideIt (fun w' => h.same (w' := w') (by show op ≤ 8; omega))
  have HT := hideIt (fun V => atom_yes ⟨op, (ja : Int), b, n⟩ ch rd V hat)
  obtain ⟨U, hU⟩ : ∃ U, U = w.alloc (.cells #[.int .i64 op, .int .i64 (ja : Int), .int .i64 b, .int .i64 n] 38) := ⟨_, rfl⟩
  have aU : After w U := by rw [hU]; exact After.rfl.alloc _
  have bU : U.heap[w.heap.size]? = some (.cells #[.int .i64 op, .int .i64 (ja : Int), .int .i64 b, .int .i64 n] 38 (0, 0)) := by rw [hU]; exact heap_alloc_new w _
  have i3 : (ja : Int) < (C.length : Int) := by omega
  have HC : Hid ((∀ V, After U V → (Instr.loadAt 38 (Ptr w.heap.size)).run Try.prog V = .ok (Nd.mk op (ja : Int) b n).val V) ∧ (∀ V, After U V → V.cell? ⟨m.p, 1, none⟩ = some (.slice (some ⟨cb, coff, none⟩) C.length cc)) ∧ (∀ V, After U V → V.cell? ⟨w.heap.size, 1, none⟩ = some (.int .i64 (ja : Int))) ∧ (∀ V, After U V → (Instr.loadAt 42 (.pointer (some ⟨cb, coff + ja * 7, none⟩))).run Try.prog V = .ok ch.val V) ∧ (∀ V, After U V → (Instr.loadAt 48 (.pointer (some ⟨rb, roff + ja * 2, none⟩))).run Try.prog V = .ok rd.val V)) := hideIt ⟨fun V hV => by
      have hb := (hV.block _ (blk_lt bU) (fun t => t)).trans bU
      exact loadNode (x := ⟨op, (ja : Int), b, n⟩) (blk_cell hb rfl) (blk_cell hb rfl) (blk_cell hb rfl) (blk_cell hb rfl),
    fun V hV => ((aU.trans hV).cell (cell_lt c1) _).trans c1,
    fun V hV => by
      have hb := (hV.block _ (blk_lt bU) (fun t => t)).trans bU
      exact blk_cell hb rfl,
    fun V hV => by
      have aV := aU.trans hV
      exact loadChanAt ((aV.cell hcb _).trans m0) ((aV.cell hcb _).trans m1) ((aV.cell hcb _).trans m2) ((aV.cell hcb _).trans m3) ((aV.cell hcb _).trans m4) ((aV.cell hcb _).trans m5) ((aV.cell hcb _).trans m6),
    fun V hV => by
      have aV := aU.trans hV
      exact loadReadAt ((aV.cell hrb _).trans r0) ((aV.cell hrb _).trans r1)⟩
  have HU := hideIt (And.intro hU aU)
  have hp := cell_lt c0
  have hn := cell_lt k0
  simp only at k0 k1 k2 k3
  clear h hU aU bU c1 c2 m0 m1 m2 m3 m4 m5 m6 r0 r1 hgc hcb hrb hch hrd ec hat hval
  generalize atom ⟨op, (ja : Int), b, n⟩ ch rd = RES at *
  have e0 : (op == 0) = false := by simp; omega
  have e6 : (op == 6) = false := by simp; omega
  have e7 : (op == 7) = false := by simp; omega
  have e8 : (op == 8) = false := by simp; omega
  have e9 : (op == 9) = false := by simp; omega
  have e10 : (op == 10) = false := by simp; omega
  have e11 : (op == 11) = false := by simp; omega
  have e12 : (op == 12) = false := by simp; omega
  clear hop
  go_enter Try.func30, Try.ntmps30
  go_upto_region 16 with fail
  rw [← HU.out.1]
  refine region_slots (by kernel_rfl) [84, 85, 86, 87, 88, 89, 90, 91, 92, 93, 94, 95, 96, 97, 98, 83, 99, 100, 10, 11] [isV ((Nd.mk op (ja : Int) b n).val), isV (Ptr m.p), isV (Ptr m.p), isV (.pointer (some ⟨m.p, 1, none⟩)), isV (.slice (some ⟨cb, coff, none⟩) C.length cc), isV (.pointer (some ⟨w.heap.size, 1, none⟩)), isV (.int .i64 (ja : Int)), isV (.pointer (some ⟨cb, coff + ja * 7, none⟩)), isV (ch.val), isV (.slice (some ⟨rb, roff, none⟩) C.length cr), isV (.pointer (some ⟨w.heap.size, 1, none⟩)), isV (.int .i64 (ja : Int)), isV (.pointer (some ⟨rb, roff + ja * 2, none⟩)), isV (rd.val), isV (.tuple #[.bool RES, .int .i64 0]), isV (.tuple #[.bool RES, .int .i64 0]), isV (.bool RES), isV (.int .i64 0), isV (.bool RES), isV (.int .i64 0)] 20 rfl rfl (stable_all (st_cons (isV_st _) (st_cons (isV_st _) (st_cons (isV_st _) (st_cons (isV_st _) (st_cons (isV_st _) (st_cons (isV_st _) (st_cons (isV_st _) (st_cons (isV_st _) (st_cons (isV_st _) (st_cons (isV_st _) (st_cons (isV_st _) (st_cons (isV_st _) (st_cons (isV_st _) (st_cons (isV_st _) (st_cons (isV_st _) (st_cons (isV_st _) (st_cons (isV_st _) (st_cons (isV_st _) (st_cons (isV_st _) (st_cons (isV_st _) (st_nil)))))))))))))))))))))) rfl rfl ?_ ?_
  · exact ⟨⟨rfl, rfl, (.inl rfl), fun a W9 K hd hb aw hk => wp_load rfl (show a.eval (.tmp 9) = Ptr w.heap.size from hb 9 rfl) (HC.out.1 W9 aw) (hk _ _ rfl After.rfl)⟩,
      ⟨rfl, rfl, (.inl rfl), fun a W9 K hd hb aw hk => wp_move (.inl rfl) (show a.eval (.tmp 0) = Ptr m.p from hb 0 rfl) (hk _ _ rfl After.rfl)⟩,
      ⟨rfl, rfl, (.inl rfl), fun a W9 K hd hb aw hk => wp_nil rfl (hd 1 rfl) (hk _ _ rfl After.rfl)⟩,
      ⟨rfl, rfl, (.inl rfl), fun a W9 K hd hb aw hk => wp_field rfl (hd 2 rfl) (fieldM _ _ 1 (by decide)) (hk _ _ rfl After.rfl)⟩,
      ⟨rfl, rfl, (.inl rfl), fun a W9 K hd hb aw hk => wp_load rfl (hd 3 rfl) (loadCs (HC.out.2.1 W9 aw)) (hk _ _ rfl After.rfl)⟩,
      ⟨rfl, rfl, (.inl rfl), fun a W9 K hd hb aw hk => wp_field rfl (show a.eval (.tmp 9) = Ptr w.heap.size from hb 9 rfl) (fieldN _ _ 1 (by decide)) (hk _ _ rfl After.rfl)⟩,
      ⟨rfl, rfl, (.inl rfl), fun a W9 K hd hb aw hk => wp_load rfl (hd 5 rfl) (loadI (HC.out.2.2.1 W9 aw)) (hk _ _ rfl After.rfl)⟩,
      ⟨rfl, rfl, (.inl rfl), fun a W9 K hd hb aw hk => wp_index rfl (hd 4 rfl) (hd 6 rfl) (indexC _ _ _ _ _ _ i3) (hk _ _ rfl After.rfl)⟩,
      ⟨rfl, rfl, (.inl rfl), fun a W9 K hd hb aw hk => wp_load rfl (hd 7 rfl) (HC.out.2.2.2.1 W9 aw) (hk _ _ rfl After.rfl)⟩,
      ⟨rfl, rfl, (.inl rfl), fun a W9 K hd hb aw hk => wp_move (.inl rfl) (show a.eval (.tmp 3) = .slice (some ⟨rb, roff, none⟩) C.length cr from hb 3 rfl) (hk _ _ rfl After.rfl)⟩,
      ⟨rfl, rfl, (.inl rfl), fun a W9 K hd hb aw hk => wp_field rfl (show a.eval (.tmp 9) = Ptr w.heap.size from hb 9 rfl) (fieldN _ _ 1 (by decide)) (hk _ _ rfl After.rfl)⟩,
      ⟨rfl, rfl, (.inl rfl), fun a W9 K hd hb aw hk => wp_load rfl (hd 10 rfl) (loadI (HC.out.2.2.1 W9 aw)) (hk _ _ rfl After.rfl)⟩,
      ⟨rfl, rfl, (.inl rfl), fun a W9 K hd hb aw hk => wp_index rfl (hd 9 rfl) (hd 11 rfl) (indexD _ _ _ _ _ _ i3) (hk _ _ rfl After.rfl)⟩,
      ⟨rfl, rfl, (.inl rfl), fun a W9 K hd hb aw hk => wp_load rfl (hd 12 rfl) (HC.out.2.2.2.2 W9 aw) (hk _ _ rfl After.rfl)⟩,
      ⟨rfl, rfl, (.inl rfl), fun a W9 K hd hb aw hk => wp_func3 rfl (enter_of Try.func40 (by kernel_rfl) (by kernel_rfl)) (hd 0 rfl) (hd 8 rfl) (hd 13 rfl) ((HT.out W9).mono (fun e w1 h => ⟨_, h.1, hk _ _ rfl h.2⟩))⟩,
      ⟨rfl, rfl, (.inl rfl), fun a W9 K hd hb aw hk => wp_move (.inl rfl) (hd 14 rfl) (hk _ _ rfl After.rfl)⟩,
      ⟨rfl, rfl, (.inl rfl), fun a W9 K hd hb aw hk => wp_extract rfl (hd 15 rfl) (extr0 _ _ _) (hk _ _ rfl After.rfl)⟩,
      ⟨rfl, rfl, (.inl rfl), fun a W9 K hd hb aw hk => wp_extract rfl (hd 15 rfl) (extr1 _ _ _) (hk _ _ rfl After.rfl)⟩,
      ⟨rfl, rfl, (.inl rfl), fun a W9 K hd hb aw hk => wp_move (.inr rfl) (hd 16 rfl) (hk _ _ rfl After.rfl)⟩,
      ⟨rfl, rfl, (.inl rfl), fun a W9 K hd hb aw hk => wp_move (.inr rfl) (hd 17 rfl) (hk _ _ rfl After.rfl)⟩,
      trivial⟩
  intro x9 w9 hx9 aw9
  have t0 : x9 0 = (Nd.mk op (ja : Int) b n).val := hx9 0 (Nat.le_of_ble_eq_true rfl)
  have t1 : x9 1 = Ptr m.p := hx9 1 (Nat.le_of_ble_eq_true rfl)
  have t2 : x9 2 = Ptr m.p := hx9 2 (Nat.le_of_ble_eq_true rfl)
  have t3 : x9 3 = .pointer (some ⟨m.p, 1, none⟩) := hx9 3 (Nat.le_of_ble_eq_true rfl)
  have t4 : x9 4 = .slice (some ⟨cb, coff, none⟩) C.length cc := hx9 4 (Nat.le_of_ble_eq_true rfl)
  have t5 : x9 5 = .pointer (some ⟨w.heap.size, 1, none⟩) := hx9 5 (Nat.le_of_ble_eq_true rfl)
  have t6 : x9 6 = .int .i64 (ja : Int) := hx9 6 (Nat.le_of_ble_eq_true rfl)
  have t7 : x9 7 = .pointer (some ⟨cb, coff + ja * 7, none⟩) := hx9 7 (Nat.le_of_ble_eq_true rfl)
  have t8 : x9 8 = ch.val := hx9 8 (Nat.le_of_ble_eq_true rfl)
  have t9 : x9 9 = .slice (some ⟨rb, roff, none⟩) C.length cr := hx9 9 (Nat.le_of_ble_eq_true rfl)
  have t10 : x9 10 = .pointer (some ⟨w.heap.size, 1, none⟩) := hx9 10 (Nat.le_of_ble_eq_true rfl)
  have t11 : x9 11 = .int .i64 (ja : Int) := hx9 11 (Nat.le_of_ble_eq_true rfl)
  have t12 : x9 12 = .pointer (some ⟨rb, roff + ja * 2, none⟩) := hx9 12 (Nat.le_of_ble_eq_true rfl)
  have t13 : x9 13 = rd.val := hx9 13 (Nat.le_of_ble_eq_true rfl)
  have t14 : x9 14 = .tuple #[.bool RES, .int .i64 0] := hx9 14 (Nat.le_of_ble_eq_true rfl)
  have t15 : x9 15 = .tuple #[.bool RES, .int .i64 0] := hx9 15 (Nat.le_of_ble_eq_true rfl)
  have t16 : x9 16 = .bool RES := hx9 16 (Nat.le_of_ble_eq_true rfl)
  have t17 : x9 17 = .int .i64 0 := hx9 17 (Nat.le_of_ble_eq_true rfl)
  have t18 : x9 18 = .bool RES := hx9 18 (Nat.le_of_ble_eq_true rfl)
  have t19 : x9 19 = .int .i64 0 := hx9 19 (Nat.le_of_ble_eq_true rfl)
  simp only [sets, List.getD_cons_succ, List.getD_cons_zero, List.set_cons_succ, List.set_cons_zero, t0, t1, t2, t3, t4, t5, t6, t7, t8, t9, t10, t11, t12, t13, t14, t15, t16, t17, t18, t19]
  clear hx9 t0 t1 t2 t3 t4 t5 t6 t7 t8 t9 t10 t11 t12 t13 t14 t15 t16 t17 t18 t19
  clear x9
  go_wp2_with fail
  go_ret
  exact ⟨rfl, HH.out _ (HU.out.2.trans aw9), (HU.out.2.trans aw9).but⟩
/-- What a node says. -/
theorem holds_node {w : World} {lo hi : Nat} {m : Mp} {L : List Nd} {C : List Ch} {Z : Nat → Int} {T : List (List Rd)} {t i : Nat} {g : Nat} {l : List Bool} {ar : Option Addr} {cr : Nat} {R : List Rd} {x : Nd} (h : Asked w lo hi m L C Z T t i x g l ar R) :
    Calls Try.prog 30 #[Ptr m.p, .int .i64 (i : Int), .slice (some ⟨g, 0, none⟩) L.length L.length, .slice ar C.length cr] w (Said w lo hi m L C Z T t i) := by
  have ho := okAll_at h.ok h.hx
  have hop := okN_op ho
  obtain ⟨op, a, b, n⟩ := x
  rcases (by simp only at hop; omega : op = 0 ∨ (1 ≤ op ∧ op ≤ 5) ∨ op = 6 ∨ op = 7 ∨ op = 8 ∨ (9 ≤ op ∧ op ≤ 11) ∨ op = 12) with rfl | hp | rfl | rfl | rfl | hp | rfl
  · exact holds_0 h
  · have hA : 0 ≤ a ∧ a < (C.length : Int) := by
      unfold okN at ho
      simp only at ho
      rw [if_neg (by omega)] at ho
      split at ho
      · simp only [idx, Bool.and_eq_true, decide_eq_true_eq] at ho; omega
      · rw [if_pos (by omega)] at ho
        simp only [idx, Bool.and_eq_true, decide_eq_true_eq] at ho; omega
    obtain ⟨ja, rfl⟩ : ∃ ja : Nat, a = (ja : Int) := ⟨a.toNat, by omega⟩
    exact holds_A hp h (by omega)
  · simp [okN, idx] at ho
    obtain ⟨⟨⟨h1, h2⟩, _⟩, _⟩ := ho
    obtain ⟨ja, rfl⟩ : ∃ ja : Nat, a = (ja : Int) := ⟨a.toNat, by omega⟩
    exact holds_6 h (by omega)
  · simp [okN, idx] at ho
    obtain ⟨⟨⟨h1, h2⟩, h3, h4⟩, _⟩ := ho
    obtain ⟨ja, rfl⟩ : ∃ ja : Nat, a = (ja : Int) := ⟨a.toNat, by omega⟩
    obtain ⟨jb, rfl⟩ : ∃ jb : Nat, b = (jb : Int) := ⟨b.toNat, by omega⟩
    exact holds_7 h (by omega) (by omega)
  · simp [okN, idx] at ho
    obtain ⟨⟨⟨h1, h2⟩, h3, h4⟩, _⟩ := ho
    obtain ⟨ja, rfl⟩ : ∃ ja : Nat, a = (ja : Int) := ⟨a.toNat, by omega⟩
    obtain ⟨jb, rfl⟩ : ∃ jb : Nat, b = (jb : Int) := ⟨b.toNat, by omega⟩
    exact holds_8 h (by omega) (by omega)
  · have hA : (0 ≤ a ∧ a < (i : Int)) ∧ b = 0 := by
      unfold okN at ho
      simp only at ho
      rw [if_neg (by omega), if_neg (by omega), if_neg (by omega)] at ho
      split at ho
      · simp only [idx, Bool.and_eq_true, decide_eq_true_eq] at ho; omega
      · rw [if_pos (by omega)] at ho
        simp only [idx, Bool.and_eq_true, decide_eq_true_eq] at ho; omega
    obtain ⟨⟨h1, h2⟩, rfl⟩ := hA
    obtain ⟨ja, rfl⟩ : ∃ ja : Nat, a = (ja : Int) := ⟨a.toNat, by omega⟩
    exact holds_K (jb := 0) (by omega) h (by omega) (by omega)
  · simp [okN, idx] at ho
    obtain ⟨⟨⟨h1, h2⟩, h3, h4⟩, _⟩ := ho
    obtain ⟨ja, rfl⟩ : ∃ ja : Nat, a = (ja : Int) := ⟨a.toNat, by omega⟩
    obtain ⟨jb, rfl⟩ : ∃ jb : Nat, b = (jb : Int) := ⟨b.toNat, by omega⟩
    exact holds_K (by omega) h (by omega) (by omega)
end Go.Proofs.Ythgmjeljjladhaa
