/-
  RuleSteps: the walk.
-/
import Derived.Test.YthgmjeljjladhaaRuE
import Derived.Test.YthgmjeljjladhaaRuV
namespace Go.Proofs.Ythgmjeljjladhaa
open Go.RowKit
set_option maxRecDepth 8000
def isOwnN (B : Nat) (L : List Nd) : Wd := fun v w => ORow ndE 38 w B v L
def isOwnC (B : Nat) (C : List Ch) : Wd := fun v w => ORow chE 42 w B v C
theorem isOwnN_st (B : Nat) (L : List Nd) : (isOwnN B L).Stable := fun _ _ _ h b => own_after h b
theorem isOwnC_st (B : Nat) (C : List Ch) : (isOwnC B C).Stable := fun _ _ _ h b => own_after h b
/-- So many ints lie where a slice leads, in a block from lo on, ahead of hi. -/
def Ints (w : World) (a : Option Addr) (n : Nat) (t : TypeId) (lo hi : Nat) : Prop :=
  n = 0 ∨ ∃ g cs, a = some ⟨g, 0, none⟩ ∧ lo ≤ g ∧ g < hi ∧ w.heap[g]? = some (.cells cs t (0, 0)) ∧ ∀ q, q < n → ∃ z, cs[q]? = some (.int .i64 z)
theorem Ints.but {S : Nat → Prop} {w w' : World} {a : Option Addr} {n : Nat} {t : TypeId} {lo hi : Nat} (h : Ints w a n t lo hi) (b : But S w w') (hn : ∀ k cs, S k → w.heap[k]? ≠ some (.cells cs t (0, 0))) : Ints w' a n t lo hi := by
  rcases h with h | ⟨g, cs, h1, h2, h3, h4, h5⟩
  · exact .inl h
  · exact .inr ⟨g, cs, h1, h2, h3, (b.block g (blk_lt h4) (fun e => hn g cs e h4)).trans h4, h5⟩
theorem Ints.after {w w' : World} {a : Option Addr} {n : Nat} {t : TypeId} {lo hi : Nat} (h : Ints w a n t lo hi) (b : After w w') : Ints w' a n t lo hi := h.but b (fun _ _ e => e.elim)
theorem ints_set {cs : Array Value} {n i : Nat} {z : Int} (h : ∀ q, q < n → ∃ z, cs[q]? = some (.int .i64 z)) : ∀ q, q < n → ∃ y, (cs.setIfInBounds i (.int .i64 z))[q]? = some (.int .i64 y) := by
  intro q hq
  obtain ⟨y, hy⟩ := h q hq
  by_cases e : i = q
  · subst e
    exact ⟨z, set_at (by have := Array.getElem?_eq_some_iff.1 hy; exact this.1) _⟩
  · exact ⟨y, by rw [set_off e]; exact hy⟩
/-- What is owned and all ints. -/
theorem own_ints {α : Type} {E : Enc α} {t : TypeId} {w : World} {B : Nat} {a : Option Addr} {c : Nat} {xs : List α} (h : ORow E t w B (.slice a xs.length c) xs) (hi : ∀ x, ∀ u ∈ E.enc x, ∃ z, u = .int .i64 z) : Ints w a (xs.length * E.k) t B w.heap.size := by
  rcases h.2 with ⟨_, h0⟩ | ⟨g, cap, cur, e, hB, hg, _⟩
  · exact .inl (by rw [h0, Nat.zero_mul])
  · cases e
    refine .inr ⟨g, _, rfl, hB, (h.lt g rfl).2, hg, fun q hq => ?_⟩
    have hc := h.cellAt q hq
    have hl : q < (E.flat xs).length := by rw [E.flat_length]; exact hq
    rw [List.getElem?_eq_getElem hl] at hc
    have hm : (E.flat xs)[q] ∈ E.flat xs := List.getElem_mem hl
    unfold Enc.flat at hm
    obtain ⟨x, _, hx⟩ := List.mem_flatMap.1 hm
    obtain ⟨z, hz⟩ := hi x _ hx
    refine ⟨z, ?_⟩
    have e2 : (E.flat xs)[q] = .int .i64 z := hz
    rw [e2] at hc
    simpa [World.cell?, hg] using hc
/-- The readings from the i-th on are as they were. -/
def NowAt (w : World) (a : Option Addr) (R : List Rd) (i : Nat) : Prop :=
  R.length = 0 ∨ ∃ g cs, a = some ⟨g, 0, none⟩ ∧ w.heap[g]? = some (.cells cs 48 (0, 0)) ∧ ∀ q r, i ≤ q → R[q]? = some r → cs[q * 2]? = some (.int .i64 r.s) ∧ cs[q * 2 + 1]? = some (.int .i64 r.v)
theorem now_own {w : World} {B : Nat} {a : Option Addr} {c : Nat} {R : List Rd} (h : ORow rdE 48 w B (.slice a R.length c) R) : NowAt w a R 0 := by
  rcases h.2 with ⟨_, h0⟩ | ⟨g, cap, cur, e, hB, hg, _⟩
  · exact .inl h0
  · cases e
    refine .inr ⟨g, _, rfl, hg, fun q r _ hr => ?_⟩
    have hq : q < R.length := (List.getElem?_eq_some_iff.1 hr).1
    have c0 := h.cellAt (q * 2) (by show q * 2 < R.length * 2; omega)
    have c1 := h.cellAt (q * 2 + 1) (by show q * 2 + 1 < R.length * 2; omega)
    have f0 : (rdE.flat R)[q * rdE.k + 0]? = some (.int .i64 r.s) := rdE.flat_at R q r hr 0 (by decide)
    have f1 : (rdE.flat R)[q * rdE.k + 1]? = some (.int .i64 r.v) := rdE.flat_at R q r hr 1 (by decide)
    rw [show rdE.k = 2 from rfl] at f0 f1
    rw [Nat.add_zero] at f0
    rw [f0] at c0
    rw [f1] at c1
    exact ⟨by simpa [World.cell?, hg] using c0, by simpa [World.cell?, hg] using c1⟩
theorem NowAt.put {w : World} {g : Nat} {R : List Rd} {i : Nat} {x y : Value} (h : NowAt w (some ⟨g, 0, none⟩) R i) : NowAt ((w.setCell ⟨g, i * 2, none⟩ x).setCell ⟨g, i * 2 + 1, none⟩ y) (some ⟨g, 0, none⟩) R (i + 1) := by
  rcases h with h | ⟨g', cs, e, h1, h2⟩
  · exact .inl h
  · cases e
    refine .inr ⟨g, _, rfl, blk_put (blk_put h1 _ _) _ _, fun q r hq hr => ?_⟩
    obtain ⟨h3, h4⟩ := h2 q r (by omega) hr
    rw [set_off (by omega), set_off (by omega), set_off (by omega), set_off (by omega)]
    exact ⟨h3, h4⟩
theorem Ints.put {w : World} {g i : Nat} {z : Int} {n : Nat} {t : TypeId} {lo hi : Nat} (h : Ints w (some ⟨g, 0, none⟩) n t lo hi) : Ints (w.setCell ⟨g, i, none⟩ (.int .i64 z)) (some ⟨g, 0, none⟩) n t lo hi := by
  rcases h with h | ⟨g', cs, e, h1, h2, h3, h4⟩
  · exact .inl h
  · cases e
    exact .inr ⟨g, _, rfl, h1, h2, blk_put h3 _ _, ints_set h4⟩
/-- What holds while the copies are written over. -/
structure Stt (w W1 : World) (lo0 : Nat) (an av : Option Addr) (va vb : Value) (L : List Nd) (C : List Ch) : Prop where
  bo : Both w lo0 Non va vb L C []
  ni : Ints w an (L.length * 4) 38 W1.heap.size lo0
  ci : Ints w av (C.length * 7) 42 W1.heap.size lo0
  aw : After W1 w
  sz : lo0 ≤ w.heap.size
theorem Stt.putN {w W1 : World} {lo0 g : Nat} {av : Option Addr} {va vb : Value} {L : List Nd} {C : List Ch} (h : Stt w W1 lo0 (some ⟨g, 0, none⟩) av va vb L C) (hL : 0 < L.length) (i : Nat) (z : Int) : Stt (w.setCell ⟨g, i, none⟩ (.int .i64 z)) W1 lo0 (some ⟨g, 0, none⟩) av va vb L C := by
  have hni := h.ni
  rcases hni with h0 | ⟨g', cs, e, h1, h2, h3, h4⟩
  · exact absurd h0 (by omega)
  · cases e
    have b := but_one w g i (.int .i64 z)
    exact ⟨h.bo.but b (fun k e => by have e : k = g := e; omega), h.ni.put, h.ci.but b (fun k cs' e hk => by have e : k = g := e; rw [e, h3] at hk; simp at hk), h.aw.then b (fun k hk e => by have e : k = g := e; omega), Nat.le_trans h.sz b.size⟩
theorem Stt.putC {w W1 : World} {lo0 g : Nat} {an : Option Addr} {va vb : Value} {L : List Nd} {C : List Ch} (h : Stt w W1 lo0 an (some ⟨g, 0, none⟩) va vb L C) (hC : 0 < C.length) (i : Nat) (z : Int) : Stt (w.setCell ⟨g, i, none⟩ (.int .i64 z)) W1 lo0 an (some ⟨g, 0, none⟩) va vb L C := by
  have hci := h.ci
  rcases hci with h0 | ⟨g', cs, e, h1, h2, h3, h4⟩
  · exact absurd h0 (by omega)
  · cases e
    have b := but_one w g i (.int .i64 z)
    exact ⟨h.bo.but b (fun k e => by have e : k = g := e; omega), h.ni.but b (fun k cs' e hk => by have e : k = g := e; rw [e, h3] at hk; simp at hk), h.ci.put, h.aw.then b (fun k hk e => by have e : k = g := e; omega), Nat.le_trans h.sz b.size⟩
set_option maxHeartbeats 1000000 in
theorem law_steps17 {L : List Nd} {C : List Ch} {X : List Tr} (w : World) (al : Option Addr) (cl : Nat) (ac : Option Addr) (cc : Nat) (aT : Option Addr) (ct : Nat) (h : Given w al cl ac cc aT ct L C X) (hn : L.length ≤ 4398046511104) (hcn : C.length * 56 ≤ 140737488355328) (hxn : ∀ x ∈ X, x.l.length * 16 ≤ 140737488355328) :
    Calls Try.prog 3 #[.slice al L.length cl, .agg #[.slice ac C.length cc, .slice aT X.length ct]] w fun e w' => e = .returned (.bool true) ∧ After w w' := by
  obtain ⟨W1, hW1⟩ : ∃ W1, W1 = w.alloc (.cells #[.slice ac C.length cc, .slice aT X.length ct] 26) := ⟨_, rfl⟩
  have a1 : After w W1 := by rw [hW1]; exact After.rfl.alloc _
  have HB : Hid (∀ V, After W1 V → V.cell? ⟨w.heap.size, 0, none⟩ = some (.slice ac C.length cc) ∧ V.cell? ⟨w.heap.size, 1, none⟩ = some (.slice aT X.length ct)) := hideIt (fun V hV => by
    rw [hW1] at hV
    exact ⟨new_cell hV 0 rfl, new_cell hV 1 rfl⟩)
  have HW := hideIt (And.intro hW1 a1)
  have HH := hideIt (And.intro h hxn)
  have HN := hideIt (fun V (hV : After W1 V) => nodes_any V al cl (h.after (a1.trans hV)).n1 h.n2 hn)
  have HC := hideIt (fun V (hV : After W1 V) => channels_any V ac cc (h.after (a1.trans hV)).c1 h.c2 hcn)
  have hn' : (L.length : Int) ≤ 4398046511104 := by omega
  have hc' : (C.length : Int) ≤ 140737488355328 := by omega
  have hx' : (X.length : Int) ≤ 140737488355328 := by have := h.xb; omega
  clear h hW1 a1 hn hcn hxn
  go_enter Try.func3, Try.ntmps3
  go_upto_region 1 with fail
  rw [← HW.out.1]
  refine region_slots (by kernel_rfl) [20, 21, 22, 23, 24, 5, 6] [isV (.slice al L.length cl), isOwnN W1.heap.size L, isV (.pointer (some ⟨w.heap.size, 0, none⟩)), isV (.slice ac C.length cc), isOwnC W1.heap.size C, isOwnN W1.heap.size L, isOwnC W1.heap.size C] 7 rfl rfl (stable_all (st_cons (isV_st _) (st_cons (isOwnN_st _ _) (st_cons (isV_st _) (st_cons (isV_st _) (st_cons (isOwnC_st _ _) (st_cons (isOwnN_st _ _) (st_cons (isOwnC_st _ _) (st_nil))))))))) rfl rfl ?_ ?_
  · exact ⟨⟨rfl, rfl, (.inl rfl), fun a W9 K hd hb aw hk => wp_move (.inl rfl) (show a.eval (.tmp 0) = .slice al L.length cl from hb 0 rfl) (hk _ _ rfl After.rfl)⟩,
      ⟨rfl, rfl, (.inl rfl), fun a W9 K hd hb aw hk => wp_func1 rfl (enter_of Try.func8 (by kernel_rfl) (by kernel_rfl)) (hd 0 rfl) ((HN.out W9 aw).mono (fun e w1 h => by obtain ⟨v, h1, h2, h3⟩ := h; exact ⟨v, h1, hk _ _ (own_base h2 (fun q hq => Nat.le_trans (But.size aw) (h2.lt q hq).1)) h3⟩))⟩,
      ⟨rfl, rfl, (.inl rfl), fun a W9 K hd hb aw hk => wp_field rfl (show a.eval (.tmp 3) = Ptr w.heap.size from hb 3 rfl) (fieldP17 _ _ 0 (by decide)) (hk _ _ rfl After.rfl)⟩,
      ⟨rfl, rfl, (.inl rfl), fun a W9 K hd hb aw hk => wp_load rfl (hd 2 rfl) (loadCs (HB.out W9 aw).1) (hk _ _ rfl After.rfl)⟩,
      ⟨rfl, rfl, (.inl rfl), fun a W9 K hd hb aw hk => wp_func1 rfl (enter_of Try.func9 (by kernel_rfl) (by kernel_rfl)) (hd 3 rfl) ((HC.out W9 aw).mono (fun e w1 h => by obtain ⟨v, h1, h2, h3⟩ := h; exact ⟨v, h1, hk _ _ (own_base h2 (fun q hq => Nat.le_trans (But.size aw) (h2.lt q hq).1)) h3⟩))⟩,
      ⟨rfl, rfl, (.inl rfl), fun a W9 K hd hb aw hk => wp_move (.inr rfl) rfl (hk _ _ (hd 1 rfl) After.rfl)⟩,
      ⟨rfl, rfl, (.inl rfl), fun a W9 K hd hb aw hk => wp_move (.inr rfl) rfl (hk _ _ (hd 4 rfl) After.rfl)⟩,
      trivial⟩
  intro x9 w9 hx9 aw9
  have t0 : x9 0 = .slice al L.length cl := hx9 0 (Nat.le_of_ble_eq_true rfl)
  have t2 : x9 2 = .pointer (some ⟨w.heap.size, 0, none⟩) := hx9 2 (Nat.le_of_ble_eq_true rfl)
  have t3 : x9 3 = .slice ac C.length cc := hx9 3 (Nat.le_of_ble_eq_true rfl)
  simp only [sets, List.getD_cons_succ, List.getD_cons_zero, List.set_cons_succ, List.set_cons_zero, t0, t2, t3]
  have o5 : isOwnN W1.heap.size L (x9 5) w9 := hx9 5 (Nat.le_of_ble_eq_true rfl)
  have o6 : isOwnC W1.heap.size C (x9 6) w9 := hx9 6 (Nat.le_of_ble_eq_true rfl)
  clear hx9 t0 t2 t3
  generalize x9 1 = y1
  generalize x9 4 = y4
  generalize x9 5 = y5 at o5 ⊢
  generalize x9 6 = y6 at o6 ⊢
  clear x9
  obtain ⟨an, cn, rfl, -, gn1, -⟩ := ORow.row o5
  obtain ⟨av, cv, rfl, -, gc1, -⟩ := ORow.row o6
  have O56 := hideIt (And.intro o5 (And.intro o6 (And.intro gn1 gc1)))
  have A2 := hideIt aw9
  obtain ⟨lo0, hlo0⟩ : ∃ lo0, lo0 = w9.heap.size := ⟨_, rfl⟩
  have IN := hideIt (own_ints o5 (fun x u hu => by
    simp only [ndE, List.mem_cons, List.not_mem_nil, or_false] at hu
    rcases hu with rfl | rfl | rfl | rfl <;> exact ⟨_, rfl⟩))
  have IC := hideIt (own_ints o6 (fun x u hu => by
    simp only [chE, List.mem_cons, List.not_mem_nil, or_false] at hu
    rcases hu with rfl | rfl | rfl | rfl | rfl | rfl | rfl <;> exact ⟨_, rfl⟩))
  rw [← hlo0] at IN IC
  have HL0 := hideIt hlo0
  clear o5 o6 aw9 HN HC gn1 gc1 hlo0
  have hem := Classical.em (chk L (C.length : Int) = 0)
  obtain ⟨d0, d1⟩ := HB.out _ A2.out
  have G2 := hideIt (HH.out.1.after (HW.out.2.trans A2.out))
  rcases hem with hc | hc
  · obtain ⟨an', cn', en, gn, nn, -⟩ := ORow.row O56.out.1
    cases en
    obtain ⟨av', cv', ev, gv, nv, -⟩ := ORow.row O56.out.2.1
    cases ev
    have HNw := hideIt (run_new w9 an cn gn nn av cv gv nv hc)
    have HRw := hideIt (fun V (hV : After w9 V) => refNew_ok V al cl (G2.out.n1.after hV) G2.out.n2 ac cc (G2.out.c1.after hV) G2.out.c2 hc)
    clear gn nn gv nv hc
    go_wp2_with fail
    refine HNw.out.mono ?_
    rintro e w3 ⟨m, rfl, r3, a3⟩
    have R3 := hideIt (And.intro r3 a3)
    clear r3 d0 d1
    obtain ⟨d0, d1⟩ := HB.out _ (A2.out.trans a3)
    clear a3
    go_wp2_with fail
    refine (HRw.out w3 R3.out.2).mono ?_
    rintro e w4 ⟨p, rfl, r4, a4⟩
    have R4 := hideIt (And.intro r4 a4)
    clear r4 a4 d0 d1 HNw HRw
    have HWa := hideIt (words_any (R3.out.1.after R4.out.2).mc R3.out.1.pos)
    have HWb := hideIt (fun V (hV : After w4 V) => refWords_any (R4.out.1.after hV))
    generalize (memA L).1 = wd at *
    go_wp2_with fail
    refine HWa.out.mono ?_
    rintro e w5 ⟨rfl, a5⟩
    have A5 := hideIt a5
    clear a5
    go_wp2_with fail
    refine (HWb.out w5 A5.out).mono ?_
    rintro e w6 ⟨rfl, a6⟩
    have A6 := hideIt (A5.out.trans a6)
    clear a6 HWa HWb
    have HBo : Hid (Both w6 lo0 Non (Ptr m.p) (Ptr p) L C [] ∧ After w9 w6) := hideIt ⟨.inr ⟨_, _, m, _, p, [], rfl, rfl, R3.out.1.after (R4.out.2.trans A6.out), R4.out.1.after A6.out, rfl, Nat.le_refl _, by rw [HL0.out]; exact Nat.le_refl _, (R4.out.2.trans A6.out).size, R3.out.2.size, fun _ t => t.elim⟩, (R3.out.2.trans R4.out.2).trans A6.out⟩
    clear R3 R4 A5 A6
    generalize Ptr m.p = va at *
    generalize Ptr p = vb at *
    go_wp2_with fail
    have S1 : Hid (Stt w6 W1 lo0 an av va vb L C) := hideIt ⟨HBo.out.1, IN.out.after HBo.out.2, IC.out.after HBo.out.2, A2.out.trans HBo.out.2, by rw [HL0.out]; exact HBo.out.2.size⟩
    go_loopw [11] (fun i wr => ∃ j : Nat, j ≤ L.length ∧ i = .int .i64 (j : Int) ∧ Stt wr W1 lo0 an av va vb L C) (fun i _ => L.length - (intOf i).toNat)
    case atStart => exact ⟨0, Nat.zero_le _, rfl, S1.out⟩
    case round =>
      clear S1 HBo
      obtain ⟨j, hj, rfl, st⟩ := hrel
      by_cases hjn : j < L.length
      · have i1 : (j : Int) < (L.length : Int) := by omega
        have in1 := st.ni
        rcases in1 with h0 | ⟨g, cs, rfl, g1, g2, g3, g4⟩
        · exact absurd h0 (by omega)
        obtain ⟨z, hz⟩ := g4 (j * 4) (by omega)
        have k0 := blk_cell g3 hz
        have k1 := blk_soft g3 (j * 4)
        have k2 := blk_lt g3
        have HQ := hideIt st
        clear st g1 g2 g3 g4 hz
        go_wp2_with fail
        go_roundw
        case rel => exact ⟨j + 1, by omega, by go_num, HQ.out.putN (by omega) _ _⟩
        case measure => simp [intOf]; omega
      · have i1 : ¬ (j : Int) < (L.length : Int) := by omega
        have S2 := hideIt st
        clear st
        go_wp2_with fail
        go_loopw [12] (fun i wr => ∃ j : Nat, j ≤ C.length ∧ i = .int .i64 (j : Int) ∧ Stt wr W1 lo0 an av va vb L C) (fun i _ => C.length - (intOf i).toNat)
        case atStart => exact ⟨0, Nat.zero_le _, rfl, S2.out⟩
        case round =>
          clear S2
          obtain ⟨k, hk, rfl, st⟩ := hrel
          by_cases hkn : k < C.length
          · have i2 : (k : Int) < (C.length : Int) := by omega
            have in1 := st.ci
            rcases in1 with h0 | ⟨g, cs, rfl, g1, g2, g3, g4⟩
            · exact absurd h0 (by omega)
            obtain ⟨z0, hz0⟩ := g4 (k * 7) (by omega)
            obtain ⟨z1, hz1⟩ := g4 (k * 7 + 1) (by omega)
            obtain ⟨z2, hz2⟩ := g4 (k * 7 + 2) (by omega)
            obtain ⟨z3, hz3⟩ := g4 (k * 7 + 3) (by omega)
            obtain ⟨z4, hz4⟩ := g4 (k * 7 + 4) (by omega)
            obtain ⟨z5, hz5⟩ := g4 (k * 7 + 5) (by omega)
            obtain ⟨z6, hz6⟩ := g4 (k * 7 + 6) (by omega)
            have q0 := blk_cell g3 hz0
            have q1 := blk_cell g3 hz1
            have q2 := blk_cell g3 hz2
            have q3 := blk_cell g3 hz3
            have q4 := blk_cell g3 hz4
            have q5 := blk_cell g3 hz5
            have q6 := blk_cell g3 hz6
            have f0 := blk_soft g3 (k * 7)
            have f1 := blk_soft g3 (k * 7 + 1)
            have f2 := blk_soft g3 (k * 7 + 2)
            have f3 := blk_soft g3 (k * 7 + 3)
            have f4 := blk_soft g3 (k * 7 + 4)
            have f5 := blk_soft g3 (k * 7 + 5)
            have f6 := blk_soft g3 (k * 7 + 6)
            have k2 := blk_lt g3
            have HQ := hideIt st
            clear st g1 g2 g3 g4 hz0 hz1 hz2 hz3 hz4 hz5 hz6
            go_wp2_with fail
            go_roundw
            case rel =>
              have hC : 0 < C.length := by omega
              exact ⟨k + 1, by omega, by go_num, ((((((HQ.out.putC hC _ _).putC hC _ _).putC hC _ _).putC hC _ _).putC hC _ _).putC hC _ _).putC hC _ _⟩
            case measure => simp [intOf]; omega
          · have i2 : ¬ (k : Int) < (C.length : Int) := by omega
            have S3 := hideIt (And.intro st.bo (And.intro st.aw st.sz))
            clear st
            go_wp2_with fail
            go_loopw [13] (fun i wr => ∃ (t : Nat) (T : List (List Rd)), t ≤ X.length ∧ t ≤ 200 ∧ T.length ≤ t ∧ i = .int .i64 (t : Int) ∧ Both wr lo0 Non va vb L C T ∧ After W1 wr ∧ lo0 ≤ wr.heap.size) (fun i _ => 200 - (intOf i).toNat)
            case atStart => exact ⟨0, [], Nat.zero_le _, by omega, Nat.le_refl _, rfl, S3.out.1, S3.out.2.1, S3.out.2.2⟩
            case round =>
              clear S3
              obtain ⟨t, T, ht1, ht2, hTl, rfl, bo, aw, hlo⟩ := hrel
              obtain ⟨d0, d1⟩ := HB.out _ aw
              by_cases htX : t < X.length
              rotate_left
              · have i3 : ¬ (t : Int) < (X.length : Int) := by omega
                have HA := hideIt aw
                clear aw bo
                go_wp2_with fail
                refine (works_any _).mono ?_
                rintro e w7 ⟨rfl, a7⟩
                go_wp2_with fail
                go_ret
                exact ⟨rfl, (HW.out.2.trans HA.out).trans a7⟩
              have i3 : (t : Int) < (X.length : Int) := by omega
              by_cases ht200 : t < 200
              rotate_left
              · have i4 : ¬ (t : Int) < 200 := by omega
                have HA := hideIt aw
                clear aw bo
                go_wp2_with fail
                refine (works_any _).mono ?_
                rintro e w7 ⟨rfl, a7⟩
                go_wp2_with fail
                go_ret
                exact ⟨rfl, (HW.out.2.trans HA.out).trans a7⟩
              have i4 : (t : Int) < 200 := by omega
              obtain ⟨tb, toff, x, rfl, htb, hx, kk0, kin⟩ := trow_at HH.out.1.t1 htX
              have aw0 := HW.out.2.trans aw
              have k0 := (aw0.cell htb _).trans kk0
              have hlt : tb < wr.heap.size := Nat.lt_of_lt_of_le htb aw0.size
              have hxl : x.l.length = x.n := kin.1.1
              have HRd := hideIt (readings_any (L := x.l) wr x.a x.d (by rw [hxl]; exact (kin.after aw0).1) (by rw [hxl]; exact kin.2) (HH.out.2 x (List.mem_of_getElem? hx)))
              have HX := hideIt (And.intro kin (And.intro hxl kk0))
              have HXB := hideIt (HH.out.2 x (List.mem_of_getElem? hx))
              have HQ := hideIt (And.intro bo (And.intro aw hTl))
              rw [← hxl] at k0
              clear bo aw kin hx kk0 aw0 htb hTl hxl
              go_wp2_with fail
              refine HRd.out.mono ?_
              rintro e w7 ⟨v7, rfl, o7, a7⟩
              obtain ⟨ao, co, rfl, j1, j2, j3⟩ := ORow.row o7
              clear j1 j2 j3
              obtain ⟨r, ke9, wd9, T', MA, MB, hT', hA, hMA, hMB⟩ := HQ.out.1.round a7 (by have := HQ.out.2.2; omega) o7 (x := x) (HX.out.1.after ((HW.out.2.trans HQ.out.2.1).trans a7)) rfl hlo (fun y hy h0 => by
                obtain ⟨b', off', e', hlt'⟩ := HX.out.1.1.lt h0
                rw [e'] at hy
                cases hy
                show b' < lo0
                rw [HL0.out]
                have := (HW.out.2.trans A2.out).size
                omega)
              have hW1lo : W1.heap.size ≤ lo0 := by rw [HL0.out]; exact A2.out.size
              have hA7 : After W1 w7 := HQ.out.2.1.trans a7
              have HA7 := hideIt hA7
              have HS7 : Hid (lo0 ≤ w7.heap.size) := hideIt (Nat.le_trans hlo a7.size)
              have HGo : Hid (∀ g, (Value.slice ao x.l.length co).ownBlock = some g → W1.heap.size ≤ g) := hideIt (fun g hg => Nat.le_trans HQ.out.2.1.size (o7.lt g hg).1)
              have HMA : Hid (∀ w', MA w' → After W1 w' ∧ Calls Try.prog 16 #[vb, .slice x.a x.l.length x.d] w' (fun e w'' => e = .returned (.tuple #[.bool r, .int .i64 ke9]) ∧ MB w'')) := hideIt (fun w' hw => by
                obtain ⟨b, c⟩ := hMA w' hw
                rw [HX.out.2.1]
                exact ⟨hA7.then b (fun q hq e => by have e : lo0 ≤ q := e; omega), c⟩)
              have HMB : Hid (∀ w', MB w' → After W1 w') := hideIt (fun w' hw => hA7.then (hMB w' hw).1 (fun q hq e => by have e : lo0 ≤ q := e; omega))
              have HMM := hideIt hMB
              have HSA := hideIt hA
              have HTT := hideIt hT'
              have HKK : Hid (∀ V, After W1 V → V.cell? ⟨tb, toff + t, none⟩ = some (.slice x.a x.l.length x.d) ∧ tb < V.heap.size ∧ x.In V) := hideIt (fun V hV => by
                have a := HW.out.2.trans hV
                rw [HX.out.2.1]
                exact ⟨(a.cell (cell_lt HX.out.2.2) _).trans HX.out.2.2, Nat.lt_of_lt_of_le (cell_lt HX.out.2.2) a.size, HX.out.1.after a⟩)
              clear hMA hMB hA hT' hA7 o7 a7 d0 d1 k0 HRd hlt
              go_wp2_with fail
              refine HSA.out.mono ?_
              rintro e w8 ⟨rfl, ma⟩
              obtain ⟨m1, m2⟩ := HMA.out w8 ma
              obtain ⟨d0, d1⟩ := HB.out _ m1
              obtain ⟨k0, k1, k2⟩ := HKK.out _ m1
              have HM2 := hideIt m2
              clear m1 m2 ma k2
              go_wp2_with fail
              refine HM2.out.mono ?_
              rintro e w10 ⟨rfl, mb⟩
              clear d0 d1 k0 k1 HM2
              obtain ⟨b1, b2, b3, b4, b5, b6⟩ := HMM.out w10 mb
              have H5 := hideIt b5
              have H4 := hideIt b4
              clear b1 b2 b3 b4 b5 b6 mb
              go_wp2_with fail
              refine H5.out.mono ?_
              rintro e w11 ⟨rfl, a11⟩
              obtain ⟨b1, b2, b3, b4, b5, b6⟩ := HMM.out w11 (H4.out w11 a11)
              have H6 := hideIt b6
              have H7 := hideIt b4
              clear b1 b2 b3 b4 b5 b6 a11
              go_wp2_with fail
              refine H6.out.mono ?_
              rintro e w12 ⟨rfl, a12⟩
              have mb := H7.out w12 a12
              obtain ⟨b1, b2, b3, b4, b5, b6⟩ := HMM.out w12 mb
              have S5 := hideIt (And.intro b3 (And.intro (now_own b2) (And.intro (HMB.out w12 mb) (Nat.le_trans HS7.out b1.size))))
              clear b1 b2 b3 b4 b5 b6 mb a12 H4 H5 H6 H7 HMM HMB HMA HSA HA7 HS7
              have HTl : Hid (T'.length ≤ t + 1) := hideIt (by have := HTT.out; have := HQ.out.2.2; omega)
              have hxb : (x.l.length : Int) ≤ 140737488355328 := by have := HXB.out; omega
              clear HQ HTT hlo
              go_wp2_with fail
              go_loopw [19] (fun i wq => ∃ q : Nat, q ≤ x.l.length ∧ i = .int .i64 (q : Int) ∧ Both wq lo0 (fun g => (Value.slice ao x.l.length co).ownBlock = some g) va vb L C T' ∧ NowAt wq ao x.l q ∧ After W1 wq ∧ lo0 ≤ wq.heap.size) (fun i _ => x.l.length - (intOf i).toNat)
              case atStart => exact ⟨0, Nat.zero_le _, rfl, S5.out.1, S5.out.2.1, S5.out.2.2.1, S5.out.2.2.2⟩
              case round =>
                clear S5
                obtain ⟨q, hq, rfl, bo, na, aw, hsz⟩ := hrel
                obtain ⟨d0, d1⟩ := HB.out _ aw
                obtain ⟨k0, k1, kin⟩ := HKK.out _ aw
                by_cases hqn : q < x.l.length
                · have i5 : (q : Int) < (x.l.length : Int) := by omega
                  rcases na with h0 | ⟨g, cs, rfl, g1, g2⟩
                  · exact absurd h0 (by omega)
                  obtain ⟨rb, roff, rd, hra, hrb, hrd, c2, c3⟩ := drow_at kin.1 (show q < x.n by rw [← HX.out.2.1]; exact hqn)
                  obtain ⟨z0, z1⟩ := g2 q rd (Nat.le_refl _) hrd
                  have c0 := blk_cell g1 z0
                  have c1 := blk_cell g1 z1
                  have f0 := blk_soft g1 (q * 2)
                  have f1 := blk_soft g1 (q * 2 + 1)
                  have gl := blk_lt g1
                  rw [hra] at k0
                  have HQ := hideIt (And.intro bo (And.intro g1 (And.intro g2 (And.intro aw hsz))))
                  have HNA : Hid (∀ n, NowAt (wr.drewN n) (some ⟨g, 0, none⟩) x.l q ∧ Both (wr.drewN n) lo0 (fun g' => (Value.slice (some ⟨g, 0, none⟩) x.l.length co).ownBlock = some g') va vb L C T' ∧ After W1 (wr.drewN n) ∧ lo0 ≤ (wr.drewN n).heap.size ∧ (wr.drewN n).heap[g]? = some (.cells cs 48 (0, 0)) ∧ (wr.drewN n).frozen? ⟨g, q * 2, none⟩ = false ∧ (wr.drewN n).frozen? ⟨g, q * 2 + 1, none⟩ = false) := hideIt (fun n => by
                    have ad : After wr (wr.drewN n) := After.rfl.draws n
                    have gd := (ad.block g (blk_lt g1) (fun t => t)).trans g1
                    exact ⟨.inr ⟨g, cs, rfl, gd, g2⟩, bo.after ad, aw.trans ad, Nat.le_trans hsz ad.size, gd, blk_soft gd _, blk_soft gd _⟩)
                  clear bo g1 g2 aw hsz kin hrd z0 z1 hra
                  go_upto_region 25 with fail
                  go_quiet (fail)
                  obtain ⟨n1, n2, n3, n4, n5, n6, n7⟩ := HNA.out nq
                  have e0 : (wr.drewN nq).cell? ⟨g, q * 2, none⟩ = some (.int .i64 rd.s) := c0
                  have e1 : (wr.drewN nq).cell? ⟨g, q * 2 + 1, none⟩ = some (.int .i64 rd.v) := c1
                  have gl9 := blk_lt n5
                  clear c0 c1 c2 c3 f0 f1 gl d0 d1 k0 k1 hrb
                  generalize wr.drewN nq = W9 at *
                  have HZ := hideIt (And.intro n1 (And.intro n2 (And.intro n3 (And.intro n4 n5))))
                  clear n1 n2 n3 n4 n5
                  go_wp2_with fail
                  go_roundw
                  case rel =>
                    obtain ⟨n1, n2, n3, n4, n5⟩ := HZ.out
                    have hG : (Value.slice (some ⟨g, 0, none⟩) x.l.length co).ownBlock = some g := rfl
                    have b1 := but_one W9 g (q * 2) (.int .i64 1)
                    have p1 := blk_put n5 (q * 2) (.int .i64 1)
                    have b2 := but_one (W9.setCell ⟨g, q * 2, none⟩ (.int .i64 1)) g (q * 2 + 1) (.int .i64 9)
                    have hg1 := HGo.out g hG
                    exact ⟨q + 1, by omega, by go_num, (n2.put hG n5 b1).put hG p1 b2, n1.put, (n3.then b1 (fun k hk e => by have e : k = g := e; omega)).then b2 (fun k hk e => by have e : k = g := e; omega), Nat.le_trans n4 (Nat.le_trans b1.size b2.size)⟩
                  case measure => simp [intOf]; omega
                · have i5 : ¬ (q : Int) < (x.l.length : Int) := by omega
                  have HZ := hideIt (And.intro bo.less (And.intro aw hsz))
                  clear bo na aw hsz kin
                  go_wp2_with fail
                  go_roundw
                  case rel => exact ⟨t + 1, T', by omega, by omega, HTl.out, by go_num, HZ.out.1, HZ.out.2.1, HZ.out.2.2⟩
                  case measure => simp [intOf]; omega
  · obtain ⟨an', cn', en, gn, nn, -⟩ := ORow.row O56.out.1
    cases en
    obtain ⟨av', cv', ev, gv, nv, -⟩ := ORow.row O56.out.2.1
    cases ev
    have HNw := hideIt (new_no w9 an L.length cn gn av C.length cv gv hc)
    have HRw := hideIt (fun V (hV : After w9 V) => refNew_no V al L.length cl (G2.out.n1.after hV) ac C.length cc (G2.out.c1.after hV) hc)
    have hcb : (chk L (C.length : Int) != 0) = true := by simp [hc]
    clear gn nn gv nv hc
    generalize chk L (C.length : Int) = ke at *
    go_wp2_with fail
    refine HNw.out.mono ?_
    rintro e w3 ⟨rfl, a3⟩
    have A3 := hideIt a3
    clear d0 d1
    obtain ⟨d0, d1⟩ := HB.out _ (A2.out.trans a3)
    clear a3
    go_wp2_with fail
    refine (HRw.out w3 A3.out).mono ?_
    rintro e w4 ⟨rfl, a4⟩
    have A4 := hideIt (A3.out.trans a4)
    clear a4 d0 d1 HNw HRw
    go_wp2_with fail
    refine (words_none (isNone_nil _)).mono ?_
    rintro e w5 ⟨rfl, rfl⟩
    go_wp2_with fail
    refine (refWords_nil _).mono ?_
    rintro e w6 ⟨rfl, rfl⟩
    have HBo : Hid (Both w6 lo0 Non (.pointer none) (.pointer none) L C [] ∧ After w9 w6) := hideIt ⟨.inl ⟨rfl, rfl⟩, A4.out⟩
    go_wp2_with fail
    have S1 : Hid (Stt w6 W1 lo0 an av (.pointer none) (.pointer none) L C) := hideIt ⟨HBo.out.1, IN.out.after HBo.out.2, IC.out.after HBo.out.2, A2.out.trans HBo.out.2, by rw [HL0.out]; exact HBo.out.2.size⟩
    go_loopw [11] (fun i wr => ∃ j : Nat, j ≤ L.length ∧ i = .int .i64 (j : Int) ∧ Stt wr W1 lo0 an av (.pointer none) (.pointer none) L C) (fun i _ => L.length - (intOf i).toNat)
    case atStart => exact ⟨0, Nat.zero_le _, rfl, S1.out⟩
    case round =>
      clear S1 HBo
      obtain ⟨j, hj, rfl, st⟩ := hrel
      by_cases hjn : j < L.length
      · have i1 : (j : Int) < (L.length : Int) := by omega
        have in1 := st.ni
        rcases in1 with h0 | ⟨g, cs, rfl, g1, g2, g3, g4⟩
        · exact absurd h0 (by omega)
        obtain ⟨z, hz⟩ := g4 (j * 4) (by omega)
        have k0 := blk_cell g3 hz
        have k1 := blk_soft g3 (j * 4)
        have k2 := blk_lt g3
        have HQ := hideIt st
        clear st g1 g2 g3 g4 hz
        go_wp2_with fail
        go_roundw
        case rel => exact ⟨j + 1, by omega, by go_num, HQ.out.putN (by omega) _ _⟩
        case measure => simp [intOf]; omega
      · have i1 : ¬ (j : Int) < (L.length : Int) := by omega
        have S2 := hideIt st
        clear st
        go_wp2_with fail
        go_loopw [12] (fun i wr => ∃ j : Nat, j ≤ C.length ∧ i = .int .i64 (j : Int) ∧ Stt wr W1 lo0 an av (.pointer none) (.pointer none) L C) (fun i _ => C.length - (intOf i).toNat)
        case atStart => exact ⟨0, Nat.zero_le _, rfl, S2.out⟩
        case round =>
          clear S2
          obtain ⟨k, hk, rfl, st⟩ := hrel
          by_cases hkn : k < C.length
          · have i2 : (k : Int) < (C.length : Int) := by omega
            have in1 := st.ci
            rcases in1 with h0 | ⟨g, cs, rfl, g1, g2, g3, g4⟩
            · exact absurd h0 (by omega)
            obtain ⟨z0, hz0⟩ := g4 (k * 7) (by omega)
            obtain ⟨z1, hz1⟩ := g4 (k * 7 + 1) (by omega)
            obtain ⟨z2, hz2⟩ := g4 (k * 7 + 2) (by omega)
            obtain ⟨z3, hz3⟩ := g4 (k * 7 + 3) (by omega)
            obtain ⟨z4, hz4⟩ := g4 (k * 7 + 4) (by omega)
            obtain ⟨z5, hz5⟩ := g4 (k * 7 + 5) (by omega)
            obtain ⟨z6, hz6⟩ := g4 (k * 7 + 6) (by omega)
            have q0 := blk_cell g3 hz0
            have q1 := blk_cell g3 hz1
            have q2 := blk_cell g3 hz2
            have q3 := blk_cell g3 hz3
            have q4 := blk_cell g3 hz4
            have q5 := blk_cell g3 hz5
            have q6 := blk_cell g3 hz6
            have f0 := blk_soft g3 (k * 7)
            have f1 := blk_soft g3 (k * 7 + 1)
            have f2 := blk_soft g3 (k * 7 + 2)
            have f3 := blk_soft g3 (k * 7 + 3)
            have f4 := blk_soft g3 (k * 7 + 4)
            have f5 := blk_soft g3 (k * 7 + 5)
            have f6 := blk_soft g3 (k * 7 + 6)
            have k2 := blk_lt g3
            have HQ := hideIt st
            clear st g1 g2 g3 g4 hz0 hz1 hz2 hz3 hz4 hz5 hz6
            go_wp2_with fail
            go_roundw
            case rel =>
              have hC : 0 < C.length := by omega
              exact ⟨k + 1, by omega, by go_num, ((((((HQ.out.putC hC _ _).putC hC _ _).putC hC _ _).putC hC _ _).putC hC _ _).putC hC _ _).putC hC _ _⟩
            case measure => simp [intOf]; omega
          · have i2 : ¬ (k : Int) < (C.length : Int) := by omega
            have S3 := hideIt (And.intro st.bo (And.intro st.aw st.sz))
            clear st
            go_wp2_with fail
            go_loopw [13] (fun i wr => ∃ (t : Nat) (T : List (List Rd)), t ≤ X.length ∧ t ≤ 200 ∧ T.length ≤ t ∧ i = .int .i64 (t : Int) ∧ Both wr lo0 Non (.pointer none) (.pointer none) L C T ∧ After W1 wr ∧ lo0 ≤ wr.heap.size) (fun i _ => 200 - (intOf i).toNat)
            case atStart => exact ⟨0, [], Nat.zero_le _, by omega, Nat.le_refl _, rfl, S3.out.1, S3.out.2.1, S3.out.2.2⟩
            case round =>
              clear S3
              obtain ⟨t, T, ht1, ht2, hTl, rfl, bo, aw, hlo⟩ := hrel
              obtain ⟨d0, d1⟩ := HB.out _ aw
              by_cases htX : t < X.length
              rotate_left
              · have i3 : ¬ (t : Int) < (X.length : Int) := by omega
                have HA := hideIt aw
                clear aw bo
                go_wp2_with fail
                refine (works_any _).mono ?_
                rintro e w7 ⟨rfl, a7⟩
                go_wp2_with fail
                go_ret
                exact ⟨rfl, (HW.out.2.trans HA.out).trans a7⟩
              have i3 : (t : Int) < (X.length : Int) := by omega
              by_cases ht200 : t < 200
              rotate_left
              · have i4 : ¬ (t : Int) < 200 := by omega
                have HA := hideIt aw
                clear aw bo
                go_wp2_with fail
                refine (works_any _).mono ?_
                rintro e w7 ⟨rfl, a7⟩
                go_wp2_with fail
                go_ret
                exact ⟨rfl, (HW.out.2.trans HA.out).trans a7⟩
              have i4 : (t : Int) < 200 := by omega
              obtain ⟨tb, toff, x, rfl, htb, hx, kk0, kin⟩ := trow_at HH.out.1.t1 htX
              have aw0 := HW.out.2.trans aw
              have k0 := (aw0.cell htb _).trans kk0
              have hlt : tb < wr.heap.size := Nat.lt_of_lt_of_le htb aw0.size
              have hxl : x.l.length = x.n := kin.1.1
              have HRd := hideIt (readings_any (L := x.l) wr x.a x.d (by rw [hxl]; exact (kin.after aw0).1) (by rw [hxl]; exact kin.2) (HH.out.2 x (List.mem_of_getElem? hx)))
              have HX := hideIt (And.intro kin (And.intro hxl kk0))
              have HXB := hideIt (HH.out.2 x (List.mem_of_getElem? hx))
              have HQ := hideIt (And.intro bo (And.intro aw hTl))
              rw [← hxl] at k0
              clear bo aw kin hx kk0 aw0 htb hTl hxl
              go_wp2_with fail
              refine HRd.out.mono ?_
              rintro e w7 ⟨v7, rfl, o7, a7⟩
              obtain ⟨ao, co, rfl, j1, j2, j3⟩ := ORow.row o7
              clear j1 j2 j3
              obtain ⟨r, ke9, wd9, T', MA, MB, hT', hA, hMA, hMB⟩ := HQ.out.1.round a7 (by have := HQ.out.2.2; omega) o7 (x := x) (HX.out.1.after ((HW.out.2.trans HQ.out.2.1).trans a7)) rfl hlo (fun y hy h0 => by
                obtain ⟨b', off', e', hlt'⟩ := HX.out.1.1.lt h0
                rw [e'] at hy
                cases hy
                show b' < lo0
                rw [HL0.out]
                have := (HW.out.2.trans A2.out).size
                omega)
              have hW1lo : W1.heap.size ≤ lo0 := by rw [HL0.out]; exact A2.out.size
              have hA7 : After W1 w7 := HQ.out.2.1.trans a7
              have HA7 := hideIt hA7
              have HS7 : Hid (lo0 ≤ w7.heap.size) := hideIt (Nat.le_trans hlo a7.size)
              have HGo : Hid (∀ g, (Value.slice ao x.l.length co).ownBlock = some g → W1.heap.size ≤ g) := hideIt (fun g hg => Nat.le_trans HQ.out.2.1.size (o7.lt g hg).1)
              have HMA : Hid (∀ w', MA w' → After W1 w' ∧ Calls Try.prog 16 #[(.pointer none), .slice x.a x.l.length x.d] w' (fun e w'' => e = .returned (.tuple #[.bool r, .int .i64 ke9]) ∧ MB w'')) := hideIt (fun w' hw => by
                obtain ⟨b, c⟩ := hMA w' hw
                rw [HX.out.2.1]
                exact ⟨hA7.then b (fun q hq e => by have e : lo0 ≤ q := e; omega), c⟩)
              have HMB : Hid (∀ w', MB w' → After W1 w') := hideIt (fun w' hw => hA7.then (hMB w' hw).1 (fun q hq e => by have e : lo0 ≤ q := e; omega))
              have HMM := hideIt hMB
              have HSA := hideIt hA
              have HTT := hideIt hT'
              have HKK : Hid (∀ V, After W1 V → V.cell? ⟨tb, toff + t, none⟩ = some (.slice x.a x.l.length x.d) ∧ tb < V.heap.size ∧ x.In V) := hideIt (fun V hV => by
                have a := HW.out.2.trans hV
                rw [HX.out.2.1]
                exact ⟨(a.cell (cell_lt HX.out.2.2) _).trans HX.out.2.2, Nat.lt_of_lt_of_le (cell_lt HX.out.2.2) a.size, HX.out.1.after a⟩)
              clear hMA hMB hA hT' hA7 o7 a7 d0 d1 k0 HRd hlt
              go_wp2_with fail
              refine HSA.out.mono ?_
              rintro e w8 ⟨rfl, ma⟩
              obtain ⟨m1, m2⟩ := HMA.out w8 ma
              obtain ⟨d0, d1⟩ := HB.out _ m1
              obtain ⟨k0, k1, k2⟩ := HKK.out _ m1
              have HM2 := hideIt m2
              clear m1 m2 ma k2
              go_wp2_with fail
              refine HM2.out.mono ?_
              rintro e w10 ⟨rfl, mb⟩
              clear d0 d1 k0 k1 HM2
              obtain ⟨b1, b2, b3, b4, b5, b6⟩ := HMM.out w10 mb
              have H5 := hideIt b5
              have H4 := hideIt b4
              clear b1 b2 b3 b4 b5 b6 mb
              go_wp2_with fail
              refine H5.out.mono ?_
              rintro e w11 ⟨rfl, a11⟩
              obtain ⟨b1, b2, b3, b4, b5, b6⟩ := HMM.out w11 (H4.out w11 a11)
              have H6 := hideIt b6
              have H7 := hideIt b4
              clear b1 b2 b3 b4 b5 b6 a11
              go_wp2_with fail
              refine H6.out.mono ?_
              rintro e w12 ⟨rfl, a12⟩
              have mb := H7.out w12 a12
              obtain ⟨b1, b2, b3, b4, b5, b6⟩ := HMM.out w12 mb
              have S5 := hideIt (And.intro b3 (And.intro (now_own b2) (And.intro (HMB.out w12 mb) (Nat.le_trans HS7.out b1.size))))
              clear b1 b2 b3 b4 b5 b6 mb a12 H4 H5 H6 H7 HMM HMB HMA HSA HA7 HS7
              have HTl : Hid (T'.length ≤ t + 1) := hideIt (by have := HTT.out; have := HQ.out.2.2; omega)
              have hxb : (x.l.length : Int) ≤ 140737488355328 := by have := HXB.out; omega
              clear HQ HTT hlo
              go_wp2_with fail
              go_loopw [19] (fun i wq => ∃ q : Nat, q ≤ x.l.length ∧ i = .int .i64 (q : Int) ∧ Both wq lo0 (fun g => (Value.slice ao x.l.length co).ownBlock = some g) (.pointer none) (.pointer none) L C T' ∧ NowAt wq ao x.l q ∧ After W1 wq ∧ lo0 ≤ wq.heap.size) (fun i _ => x.l.length - (intOf i).toNat)
              case atStart => exact ⟨0, Nat.zero_le _, rfl, S5.out.1, S5.out.2.1, S5.out.2.2.1, S5.out.2.2.2⟩
              case round =>
                clear S5
                obtain ⟨q, hq, rfl, bo, na, aw, hsz⟩ := hrel
                obtain ⟨d0, d1⟩ := HB.out _ aw
                obtain ⟨k0, k1, kin⟩ := HKK.out _ aw
                by_cases hqn : q < x.l.length
                · have i5 : (q : Int) < (x.l.length : Int) := by omega
                  rcases na with h0 | ⟨g, cs, rfl, g1, g2⟩
                  · exact absurd h0 (by omega)
                  obtain ⟨rb, roff, rd, hra, hrb, hrd, c2, c3⟩ := drow_at kin.1 (show q < x.n by rw [← HX.out.2.1]; exact hqn)
                  obtain ⟨z0, z1⟩ := g2 q rd (Nat.le_refl _) hrd
                  have c0 := blk_cell g1 z0
                  have c1 := blk_cell g1 z1
                  have f0 := blk_soft g1 (q * 2)
                  have f1 := blk_soft g1 (q * 2 + 1)
                  have gl := blk_lt g1
                  rw [hra] at k0
                  have HQ := hideIt (And.intro bo (And.intro g1 (And.intro g2 (And.intro aw hsz))))
                  have HNA : Hid (∀ n, NowAt (wr.drewN n) (some ⟨g, 0, none⟩) x.l q ∧ Both (wr.drewN n) lo0 (fun g' => (Value.slice (some ⟨g, 0, none⟩) x.l.length co).ownBlock = some g') (.pointer none) (.pointer none) L C T' ∧ After W1 (wr.drewN n) ∧ lo0 ≤ (wr.drewN n).heap.size ∧ (wr.drewN n).heap[g]? = some (.cells cs 48 (0, 0)) ∧ (wr.drewN n).frozen? ⟨g, q * 2, none⟩ = false ∧ (wr.drewN n).frozen? ⟨g, q * 2 + 1, none⟩ = false) := hideIt (fun n => by
                    have ad : After wr (wr.drewN n) := After.rfl.draws n
                    have gd := (ad.block g (blk_lt g1) (fun t => t)).trans g1
                    exact ⟨.inr ⟨g, cs, rfl, gd, g2⟩, bo.after ad, aw.trans ad, Nat.le_trans hsz ad.size, gd, blk_soft gd _, blk_soft gd _⟩)
                  clear bo g1 g2 aw hsz kin hrd z0 z1 hra
                  go_upto_region 25 with fail
                  go_quiet (fail)
                  obtain ⟨n1, n2, n3, n4, n5, n6, n7⟩ := HNA.out nq
                  have e0 : (wr.drewN nq).cell? ⟨g, q * 2, none⟩ = some (.int .i64 rd.s) := c0
                  have e1 : (wr.drewN nq).cell? ⟨g, q * 2 + 1, none⟩ = some (.int .i64 rd.v) := c1
                  have gl9 := blk_lt n5
                  clear c0 c1 c2 c3 f0 f1 gl d0 d1 k0 k1 hrb
                  generalize wr.drewN nq = W9 at *
                  have HZ := hideIt (And.intro n1 (And.intro n2 (And.intro n3 (And.intro n4 n5))))
                  clear n1 n2 n3 n4 n5
                  go_wp2_with fail
                  go_roundw
                  case rel =>
                    obtain ⟨n1, n2, n3, n4, n5⟩ := HZ.out
                    have hG : (Value.slice (some ⟨g, 0, none⟩) x.l.length co).ownBlock = some g := rfl
                    have b1 := but_one W9 g (q * 2) (.int .i64 1)
                    have p1 := blk_put n5 (q * 2) (.int .i64 1)
                    have b2 := but_one (W9.setCell ⟨g, q * 2, none⟩ (.int .i64 1)) g (q * 2 + 1) (.int .i64 9)
                    have hg1 := HGo.out g hG
                    exact ⟨q + 1, by omega, by go_num, (n2.put hG n5 b1).put hG p1 b2, n1.put, (n3.then b1 (fun k hk e => by have e : k = g := e; omega)).then b2 (fun k hk e => by have e : k = g := e; omega), Nat.le_trans n4 (Nat.le_trans b1.size b2.size)⟩
                  case measure => simp [intOf]; omega
                · have i5 : ¬ (q : Int) < (x.l.length : Int) := by omega
                  have HZ := hideIt (And.intro bo.less (And.intro aw hsz))
                  clear bo na aw hsz kin
                  go_wp2_with fail
                  go_roundw
                  case rel => exact ⟨t + 1, T', by omega, by omega, HTl.out, by go_num, HZ.out.1, HZ.out.2.1, HZ.out.2.2⟩
                  case measure => simp [intOf]; omega
end Go.Proofs.Ythgmjeljjladhaa
