/-
  FormulaPast: the walk.
-/
import Derived.Test.YtgbaibnlfmeklaaFoZ15
import Derived.Test.YtgbaibnlfmeklaaFoK
import Derived.Test.YtgbaibnlfmeklaaFrameO
import Derived.BigQuiet
namespace Go.Proofs.Ytgbaibnlfmeklaa
open Go.RowKit
set_option maxRecDepth 8000
def AllB (S : Nat → Prop) (A : Nat) : Nat → List Wd → Prop
  | _, [] => True
  | k, P :: Ts => (k = A ∨ P.StableB S) ∧ AllB S A (k + 1) Ts
theorem AllB.at {S : Nat → Prop} {A : Nat} : ∀ {Ts : List Wd} {k i : Nat} {P : Wd}, AllB S A k Ts → Ts[i]? = some P → k + i ≠ A → P.StableB S
  | [], _, _, _, _, h, _ => by simp at h
  | Q :: Ts, k, 0, P, h, hp, hn => by
    simp at hp
    subst hp
    rcases h.1 with h1 | h1
    · omega
    · exact h1
  | Q :: Ts, k, i + 1, P, h, hp, hn => AllB.at (i := i) h.2 (by simpa using hp) (by omega)
theorem AllB.all {S : Nat → Prop} {A : Nat} {Ts : List Wd} (h : AllB S A 0 Ts) : ∀ i, i ≠ A → (wdAt Ts i).StableB S := stableB_all (fun _ _ hi hn => h.at hi (by omega))
/-- A past that is made longer, in a block of its own and rows of its own. -/
structure LongAt (wr V : World) (u v : Value) (Y : List Tr) : Prop where
  blk : V.heap[wr.heap.size]? = some (.cells #[u, v] 44 (0, 0))
  own : ORow trE 51 V (wr.heap.size + 1) v Y
  aft : After wr V
theorem LongAt.blk9 {wr V W9 : World} {u v : Value} {Y : List Tr} (h : LongAt wr V u v Y) (b : But (fun k => v.ownBlock = some k) V W9) : W9.heap[wr.heap.size]? = some (.cells #[u, v] 44 (0, 0)) :=
  (b.block _ (blk_lt h.blk) (fun e => by have := (h.own.lt _ e).1; omega)).trans h.blk
theorem LongAt.c1 {wr V W9 : World} {u v : Value} {Y : List Tr} (h : LongAt wr V u v Y) (b : But (fun k => v.ownBlock = some k) V W9) : W9.cell? ⟨wr.heap.size, 1, none⟩ = some v := blk_cell (h.blk9 b) rfl
theorem LongAt.af {wr V W9 : World} {u v : Value} {Y : List Tr} (h : LongAt wr V u v Y) (b : But (fun k => v.ownBlock = some k) V W9) : After wr W9 := h.aft.then b (fun i hi e => by have := (h.own.lt _ e).1; omega)
theorem LongAt.sz {wr V W9 : World} {u v : Value} {Y : List Tr} (h : LongAt wr V u v Y) (b : But (fun k => v.ownBlock = some k) V W9) : wr.heap.size + 1 ≤ W9.heap.size := blk_lt (h.blk9 b)
theorem LongAt.after {wr V W9 : World} {u v : Value} {Y : List Tr} (h : LongAt wr V u v Y) (b : After V W9) : LongAt wr W9 u v Y := ⟨(b.block _ (blk_lt h.blk) (fun t => t)).trans h.blk, own_after h.own b, h.aft.trans b⟩
theorem LongAt.put {wr V W9 : World} {u v v' : Value} {Y Y' : List Tr} (h : LongAt wr V u v Y) (b : But (fun k => v.ownBlock = some k) V W9) (o : isOwn (wr.heap.size + 1) Y' v' W9) : LongAt wr (W9.setCell ⟨wr.heap.size, 1, none⟩ v') u v' Y' :=
  ⟨blk_put (h.blk9 b) 1 v', own_but o (but_one W9 wr.heap.size 1 v') (fun k hk e => by have := (World.ownsRow.lt o k hk).1; cases e; omega), (h.af b).set _ (Nat.le_refl _) _⟩
set_option maxHeartbeats 700000 in
theorem law_past {L : List Nd} {C C2 : List Ch} {X X2 : List Tr} (w : World) (al : Option Addr) (cl : Nat) (ac : Option Addr) (cc : Nat) (aT : Option Addr) (ct : Nat) (h1 : NRow w al L.length L) (ha : al = none → L.length = 0 ∧ cl = 0) (_hb : ∀ x ∈ L, x.in64) (h2 : CRow w ac C.length C) (h3 : TRow w aT X.length X) (_haT : aT = none → X.length = 0 ∧ ct = 0) (hcap : X.length ≤ ct) (ac2 : Option Addr) (cc2 : Nat) (aT2 : Option Addr) (ct2 : Nat) (h4 : TRow w aT2 X2.length X2) :
    Calls Try.prog 8 #[.slice al L.length cl, .agg #[.slice ac C.length cc, .slice aT X.length ct], .agg #[.slice ac2 C2.length cc2, .slice aT2 X2.length ct2]] w fun e w' => e = .returned (.bool true) ∧ After w w' := by
  obtain ⟨W1, hW1⟩ : ∃ W1, W1 = (w.alloc (.cells #[.slice ac C.length cc, .slice aT X.length ct] 44)).alloc (.cells #[.slice ac2 C2.length cc2, .slice aT2 X2.length ct2] 44) := ⟨_, rfl⟩
  have a1 : After w W1 := by rw [hW1]; exact (After.rfl.alloc _).alloc _
  have b1 : W1.heap[w.heap.size]? = some (.cells #[.slice ac C.length cc, .slice aT X.length ct] 44 (0, 0)) := by rw [hW1]; exact new_blk (After.rfl.alloc _)
  have b2 : W1.heap[w.heap.size + 1]? = some (.cells #[.slice ac2 C2.length cc2, .slice aT2 X2.length ct2] 44 (0, 0)) := by
    rw [hW1]
    have := heap_alloc_new (w.alloc (.cells #[.slice ac C.length cc, .slice aT X.length ct] 44)) (.cells #[.slice ac2 C2.length cc2, .slice aT2 X2.length ct2] 44)
    simpa using this
  have HB : Hid (∀ V, After W1 V → (V.cell? ⟨w.heap.size, 0, none⟩ = some (.slice ac C.length cc) ∧ V.cell? ⟨w.heap.size, 1, none⟩ = some (.slice aT X.length ct)) ∧ V.cell? ⟨w.heap.size + 1, 1, none⟩ = some (.slice aT2 X2.length ct2)) := hideIt (fun V hV => by
    have h := (hV.block _ (blk_lt b1) (fun t => t)).trans b1
    have h' := (hV.block _ (blk_lt b2) (fun t => t)).trans b2
    exact ⟨⟨blk_cell h rfl, blk_cell h rfl⟩, blk_cell h' rfl⟩)
  have H1 := hideIt (And.intro h1 (And.intro ha (And.intro h2 (And.intro h3 h4))))
  have HW := hideIt hW1
  have HA := hideIt a1
  have HZ := hideIt (And.intro (blk_lt b1) (blk_lt b2))
  clear h1 ha h2 h3 h4 b1 b2 a1 hW1 _hb _haT
  go_enter Try.func8, Try.ntmps8
  go_wp2_with fail
  rw [← HW.out]
  refine (works_any _).mono ?_
  rintro e w2 ⟨rfl, a2⟩
  obtain ⟨⟨c0, c1⟩, c2⟩ := HB.out _ a2
  clear c2
  have A2 := hideIt a2
  clear a2 HW
  go_wp2_with fail
  refine (may_any (L := L) (C := C) (X := X) _ al cl ac cc aT ct (H1.out.1.after (HA.out.trans A2.out)) (H1.out.2.2.2.1.after (HA.out.trans A2.out)) 1 (by omega)).mono ?_
  rintro e w3 ⟨B, rfl, hB, a3⟩
  have A3 := hideIt (A2.out.trans a3)
  clear a3 c0 c1 A2
  cases B with
  | false =>
    clear hB
    go_wp2_with fail
    go_ret
    exact ⟨rfl, HA.out.trans A3.out⟩
  | true =>
    obtain ⟨hc, hl, hT, hr⟩ := hB rfl
    have hXl : (rdsOf X).length = X.length := rdsOf_length X
    obtain ⟨S, hS⟩ : ∃ S, bitsOf (val L C (rdsOf X) (L.length - 1)) (rdsOf X).length = S := ⟨_, rfl⟩
    have zS : S.size = X.length := by rw [← hS, bitsOf_size, hXl]
    have T1 := hideIt (tx_self (al := al) (cl := cl) (ac := ac) (cc := cc) (aT := aT) (ct := ct) H1.out.1 H1.out.2.2.1 H1.out.2.2.2.1 hT hr hc)
    rw [hS] at T1
    have HS := hideIt (And.intro hS (And.intro hc (And.intro hl (And.intro hT hr))))
    have hX2 : (X.length : Int) ≤ 200 := by omega
    have hL2 : (L.length : Int) ≤ 31 := by omega
    clear hB hc hl hT hr hS hXl
    obtain ⟨⟨c0, c1⟩, c2⟩ := HB.out _ A3.out
    clear c2
    go_wp2_with fail
    refine (T1.out _ (HA.out.trans A3.out)).mono ?_
    rintro e w4 ⟨rfl, a4⟩
    have A4 := hideIt (A3.out.trans a4)
    clear a4 A3 c0 c1
    go_wp2_with fail
    go_loopw [8] (fun a wr => ∃ n : Nat, 1 ≤ n ∧ n ≤ 400 ∧ a = .int .i64 n ∧ After W1 wr) (fun a _ => X.length + 1 - (intOf a).toNat)
    case atStart => exact ⟨1, by omega, by omega, rfl, A4.out⟩
    case round =>
      obtain ⟨n, n1, n2, rfl, aw⟩ := hrel
      obtain ⟨U, rfl⟩ : ∃ U, U = wr := ⟨_, rfl⟩
      obtain ⟨⟨c0, c1⟩, c2⟩ := HB.out _ aw
      clear c2
      by_cases hn : n ≤ X.length
      · have i1 : (n : Int) ≤ (X.length : Int) := by omega
        have AW := hideIt aw
        have z1 : (w.heap.size : Nat) < U.heap.size := Nat.lt_of_lt_of_le HZ.out.1 aw.size
        clear aw
        obtain ⟨tb, toff, _, rfl, _, _, _, _⟩ := trow_at H1.out.2.2.2.1 (show 0 < X.length by omega)
        have i2 : (n : Int) ≤ (ct : Int) := by omega
        go_upto_region 10 with fail
        obtain ⟨W5, hW5⟩ : ∃ W5, W5 = U.alloc (.cells #[.slice ac C.length cc, .slice none 0 0] 44) := ⟨_, rfl⟩
        have LA : Hid (LongAt U W5 (.slice ac C.length cc) (.slice none 0 0) []) := hideIt (by rw [hW5]; exact ⟨heap_alloc_new U _, orow_nil trE _ _ _, After.rfl.alloc _⟩)
        rw [← hW5]
        clear hW5 c0 c1
        refine region_own (S := fun k => (Value.slice none 0 0).ownBlock = some k) (A := 6) (by kernel_rfl) [37, 38, 39, 40, 41, 42, 43, 44] [isV (.pointer (some ⟨U.heap.size, 1, none⟩)), isV (.slice none 0 0), isV (.pointer (some ⟨w.heap.size, 1, none⟩)), isV (.slice (some ⟨tb, toff, none⟩) X.length ct), isV (.int .i64 (n : Int)), isV (.slice (some ⟨tb, toff, none⟩) n ct), isOwn (U.heap.size + 1) (X.take n), isV (.pointer (some ⟨U.heap.size, 1, none⟩))] 8 _ rfl rfl rfl rfl 12 rfl rfl (stable_all (st_cons (isV_st _) (st_cons (isV_st _) (st_cons (isV_st _) (st_cons (isV_st _) (st_cons (isV_st _) (st_cons (isV_st _) (st_cons (isOwn_st _ _) (st_cons (isV_st _) (st_nil)))))))))) (AllB.all ⟨.inr (isV_stB _ _), .inr (isV_stB _ _), .inr (isV_stB _ _), .inr (isV_stB _ _), .inr (isV_stB _ _), .inr (isV_stB _ _), .inl rfl, .inr (isV_stB _ _), trivial⟩) rfl rfl ?_ ?_
        · exact ⟨⟨rfl, rfl, (.inl rfl), fun a W9 K hd hb aw na hk => wp_field rfl (show a.eval (.tmp 9) = Ptr U.heap.size from hb 9 rfl) (fieldP1 _ _) (hk _ _ rfl (.inl After.rfl))⟩,
            ⟨rfl, rfl, (.inl rfl), fun a W9 K hd hb aw na hk => wp_load rfl (hd 0 rfl) (loadT (LA.out.c1 aw)) (hk _ _ rfl (.inl After.rfl))⟩,
            ⟨rfl, rfl, (.inl rfl), fun a W9 K hd hb aw na hk => wp_field rfl (show a.eval (.tmp 4) = Ptr w.heap.size from hb 4 rfl) (fieldP1 _ _) (hk _ _ rfl (.inl After.rfl))⟩,
            ⟨rfl, rfl, (.inl rfl), fun a W9 K hd hb aw na hk => wp_load rfl (hd 2 rfl) (loadT (HB.out _ (AW.out.trans (LA.out.af aw))).1.2) (hk _ _ rfl (.inl After.rfl))⟩,
            ⟨rfl, rfl, (.inl rfl), fun a W9 K hd hb aw na hk => wp_move (.inl rfl) (show a.eval (.tmp 8) = .int .i64 (n : Int) from hb 8 rfl) (hk _ _ rfl (.inl After.rfl))⟩,
            ⟨rfl, rfl, (.inl rfl), fun a W9 K hd hb aw na hk => wp_sliceTo rfl (hd 3 rfl) (hd 4 rfl) (sliceT _ _ _ _ _ i2) (hk _ _ rfl (.inl After.rfl))⟩,
            ⟨rfl, rfl, (.inl rfl), fun a W9 K hd hb aw na hk => wp_app (.tmp 38) (.tmp 42) rfl (hd 1 rfl) (orow_nil trE _ _ _) (hd 5 rfl) ((H1.out.2.2.2.1.after (HA.out.trans (AW.out.trans (LA.out.af aw)))).take hn).1 (by simp; omega) (LA.out.sz aw) (fun v1 w1 h1 h2 => hk _ _ h1 (.inr ⟨rfl, h2⟩))⟩,
            ⟨rfl, rfl, (.inl rfl), fun a W9 K hd hb aw na hk => wp_field rfl (show a.eval (.tmp 9) = Ptr U.heap.size from hb 9 rfl) (fieldP1 _ _) (hk _ _ rfl (.inl After.rfl))⟩,
            trivial⟩
        intro x9 w9 hx9 aw9 K9 hK9
        have t0 : x9 0 = .pointer (some ⟨U.heap.size, 1, none⟩) := hx9 0 (Nat.le_of_ble_eq_true rfl)
        have t1 : x9 1 = .slice none 0 0 := hx9 1 (Nat.le_of_ble_eq_true rfl)
        have t2 : x9 2 = .pointer (some ⟨w.heap.size, 1, none⟩) := hx9 2 (Nat.le_of_ble_eq_true rfl)
        have t3 : x9 3 = .slice (some ⟨tb, toff, none⟩) X.length ct := hx9 3 (Nat.le_of_ble_eq_true rfl)
        have t4 : x9 4 = .int .i64 (n : Int) := hx9 4 (Nat.le_of_ble_eq_true rfl)
        have t5 : x9 5 = .slice (some ⟨tb, toff, none⟩) n ct := hx9 5 (Nat.le_of_ble_eq_true rfl)
        have o6 : isOwn (U.heap.size + 1) (X.take n) (x9 6) w9 := hx9 6 (Nat.le_of_ble_eq_true rfl)
        have t7 : x9 7 = .pointer (some ⟨U.heap.size, 1, none⟩) := hx9 7 (Nat.le_of_ble_eq_true rfl)
        simp only [sets, List.getD_cons_succ, List.getD_cons_zero, List.set_cons_succ, List.set_cons_zero, t0, t1, t2, t3, t4, t5, t7]
        clear hx9 t0 t1 t2 t3 t4 t5 t7
        generalize x9 6 = y6 at *
        clear x9
        obtain ⟨av, cv, rfl, j1, j2, j3⟩ := ORow.row o6
        clear j1 j2 j3
        have LP := LA.out.put aw9 o6
        refine wp_storeT (v := .slice av (X.take n).length cv) rfl rfl rfl rfl ⟨_, _, _, rfl⟩ (LA.out.c1 aw9) (blk_soft (LA.out.blk9 aw9) 1) (hK9 _ _ ?_)
        generalize w9.setCell ⟨U.heap.size, 1, none⟩ (.slice av (X.take n).length cv) = W6 at LP ⊢
        have LB := hideIt LP
        clear LP LA aw9 o6 hK9 w9 W5
        go_wp2_with fail
        go_loopw [10] (fun a V => ∃ (j : Nat) (Y : List Tr) (v : Value), j ≤ X2.length ∧ j ≤ 20 ∧ Y.length ≤ j ∧ (∀ y ∈ Y, y ∈ X2 ∧ y.n = C.length) ∧ a = .int .i64 j ∧ LongAt U V (.slice ac C.length cc) v (X.take n ++ Y)) (fun a _ => 20 - (intOf a).toNat)
        case atStart => exact ⟨0, [], _, Nat.zero_le _, by omega, Nat.zero_le _, (fun y hy => by cases hy), rfl, by rw [List.append_nil]; exact LB.out⟩
        case round =>
          clear LB W6
          obtain ⟨j, Y, v, hj, hj2, hYl, hY, rfl, lb⟩ := hrel
          obtain ⟨av, cv, rfl, j1, j2, j3⟩ := ORow.row lb.own
          obtain ⟨⟨c0, c1⟩, c2⟩ := HB.out _ (AW.out.trans lb.aft)
          have LB := hideIt lb
          have LC : Hid ((X.take n ++ Y).length + 1 ≤ 1000) := hideIt (by simp; omega)
          have LD := hideIt (And.intro hYl hY)
          have LR := hideIt (And.intro j1 (And.intro j2 j3))
          have sY : (X.take n ++ Y).length = n + Y.length := by simp; omega
          clear lb j1 j2 j3 hYl hY
          by_cases hjn : j < X2.length ∧ j < 20
          · have i5 : (j : Int) < (X2.length : Int) := by omega
            have i6 : (j : Int) < 20 := by omega
            obtain ⟨qb, qoff, x, rfl, hqb, hx, k0, kin⟩ := trow_at H1.out.2.2.2.2 hjn.1
            have HQ : Hid (∀ W9, After W1 W9 → W9.cell? ⟨qb, qoff + j, none⟩ = some (.slice x.a x.n x.d)) := hideIt (fun W9 h => ((HA.out.trans h).cell hqb _).trans k0)
            have k0' := HQ.out _ (AW.out.trans LB.out.aft)
            have HX := hideIt hx
            clear k0 kin hx
            by_cases he : x.n = C.length
            · have e1 : ((x.n : Int) == (C.length : Int)) = true := by simp [he]
              have HE := hideIt he
              clear he
              go_upto_region 14 with fail
              go_quiet (fail)
              have L8 := LB.out.after ((After.rfl (w := wr)).draws nq)
              obtain ⟨W8, hW8⟩ : ∃ W8, W8 = wr.drewN nq := ⟨_, rfl⟩
              rw [← hW8] at L8 ⊢
              clear hW8 LB k0' c0 c1 c2
              have LB := hideIt L8
              have hS9 : ∀ k, (Value.slice av (X.take n ++ Y).length cv).ownBlock = some k → k < W8.heap.size := fun k hk => (L8.own.lt k hk).2
              clear L8
              go_upto_region 15 with fail
              refine region_own (S := fun k => (Value.slice av (X.take n ++ Y).length cv).ownBlock = some k) (A := 8) (by kernel_rfl) [66, 67, 68, 69, 70, 71, 72, 73, 74, 75] [isV (.pointer (some ⟨U.heap.size, 1, none⟩)), isV (.slice av (X.take n ++ Y).length cv), isV (.pointer (some ⟨w.heap.size + 1, 1, none⟩)), isV (.slice (some ⟨qb, qoff, none⟩) X2.length ct2), isV (.int .i64 (j : Int)), isV (.pointer (some ⟨qb, qoff + j, none⟩)), isV (.slice x.a x.n x.d), isNew W8.heap.size x, isOwn (U.heap.size + 1) ((X.take n ++ Y) ++ [x]), isV (.pointer (some ⟨U.heap.size, 1, none⟩))] 10 _ rfl rfl rfl rfl 12 rfl rfl (stable_all (st_cons (isV_st _) (st_cons (isV_st _) (st_cons (isV_st _) (st_cons (isV_st _) (st_cons (isV_st _) (st_cons (isV_st _) (st_cons (isV_st _) (st_cons (isNew_st _ _) (st_cons (isOwn_st _ _) (st_cons (isV_st _) (st_nil)))))))))))) (AllB.all ⟨.inr (isV_stB _ _), .inr (isV_stB _ _), .inr (isV_stB _ _), .inr (isV_stB _ _), .inr (isV_stB _ _), .inr (isV_stB _ _), .inr (isV_stB _ _), .inr (isNew_stB hS9 _), .inl rfl, .inr (isV_stB _ _), trivial⟩) rfl rfl ?_ ?_
              · exact ⟨⟨rfl, rfl, (.inl rfl), fun a W9 K hd hb aw na hk => wp_field rfl (show a.eval (.tmp 9) = Ptr U.heap.size from hb 9 rfl) (fieldP1 _ _) (hk _ _ rfl (.inl After.rfl))⟩,
                  ⟨rfl, rfl, (.inl rfl), fun a W9 K hd hb aw na hk => wp_load rfl (hd 0 rfl) (loadT (LB.out.c1 aw)) (hk _ _ rfl (.inl After.rfl))⟩,
                  ⟨rfl, rfl, (.inl rfl), fun a W9 K hd hb aw na hk => wp_field rfl (show a.eval (.tmp 5) = Ptr (w.heap.size + 1) from hb 5 rfl) (fieldP1 _ _) (hk _ _ rfl (.inl After.rfl))⟩,
                  ⟨rfl, rfl, (.inl rfl), fun a W9 K hd hb aw na hk => wp_load rfl (hd 2 rfl) (loadT (HB.out _ (AW.out.trans (LB.out.af aw))).2) (hk _ _ rfl (.inl After.rfl))⟩,
                  ⟨rfl, rfl, (.inl rfl), fun a W9 K hd hb aw na hk => wp_move (.inl rfl) (show a.eval (.tmp 10) = .int .i64 (j : Int) from hb 10 rfl) (hk _ _ rfl (.inl After.rfl))⟩,
                  ⟨rfl, rfl, (.inl rfl), fun a W9 K hd hb aw na hk => wp_index rfl (hd 3 rfl) (hd 4 rfl) (indexT _ _ _ _ _ _ i5) (hk _ _ rfl (.inl After.rfl))⟩,
                  ⟨rfl, rfl, (.inl rfl), fun a W9 K hd hb aw na hk => wp_load rfl (hd 5 rfl) (loadDs (HQ.out _ (AW.out.trans (LB.out.af aw)))) (hk _ _ rfl (.inl After.rfl))⟩,
                  ⟨rfl, rfl, (.inl rfl), fun a W9 K hd hb aw na hk => by
            obtain ⟨v1, w1, h1, h2, h3⟩ := newOf x W8.heap.size W9 aw.size
            exact wp_slice1 rfl (hd 6 rfl) h1 (hk _ _ h2 (.inl h3))⟩,
                  ⟨rfl, rfl, (.inl rfl), fun a W9 K hd hb aw na hk => by
            obtain ⟨g9, e9, hg9, hb9⟩ := hd 7 rfl
            exact wp_app (.tmp 67) (.tmp 73) rfl (hd 1 rfl) (own_after LB.out.own (na rfl)) e9 (lit_row hb9 rfl rfl) (by have := LC.out; omega) (LB.out.sz aw) (fun v1 w1 h1 h2 => hk _ _ h1 (.inr ⟨rfl, h2⟩))⟩,
                  ⟨rfl, rfl, (.inl rfl), fun a W9 K hd hb aw na hk => wp_field rfl (show a.eval (.tmp 9) = Ptr U.heap.size from hb 9 rfl) (fieldP1 _ _) (hk _ _ rfl (.inl After.rfl))⟩,
                  trivial⟩
              intro x9 w9 hx9 aw9 K9 hK9
              have t0 : x9 0 = .pointer (some ⟨U.heap.size, 1, none⟩) := hx9 0 (Nat.le_of_ble_eq_true rfl)
              have t1 : x9 1 = .slice av (X.take n ++ Y).length cv := hx9 1 (Nat.le_of_ble_eq_true rfl)
              have t2 : x9 2 = .pointer (some ⟨w.heap.size + 1, 1, none⟩) := hx9 2 (Nat.le_of_ble_eq_true rfl)
              have t3 : x9 3 = .slice (some ⟨qb, qoff, none⟩) X2.length ct2 := hx9 3 (Nat.le_of_ble_eq_true rfl)
              have t4 : x9 4 = .int .i64 (j : Int) := hx9 4 (Nat.le_of_ble_eq_true rfl)
              have t5 : x9 5 = .pointer (some ⟨qb, qoff + j, none⟩) := hx9 5 (Nat.le_of_ble_eq_true rfl)
              have t6 : x9 6 = .slice x.a x.n x.d := hx9 6 (Nat.le_of_ble_eq_true rfl)
              have o7 : isNew W8.heap.size x (x9 7) w9 := hx9 7 (Nat.le_of_ble_eq_true rfl)
              have o8 : isOwn (U.heap.size + 1) ((X.take n ++ Y) ++ [x]) (x9 8) w9 := hx9 8 (Nat.le_of_ble_eq_true rfl)
              have t9 : x9 9 = .pointer (some ⟨U.heap.size, 1, none⟩) := hx9 9 (Nat.le_of_ble_eq_true rfl)
              simp only [sets, List.getD_cons_succ, List.getD_cons_zero, List.set_cons_succ, List.set_cons_zero, t0, t1, t2, t3, t4, t5, t6, t9]
              clear hx9 t0 t1 t2 t3 t4 t5 t6 t9
              generalize x9 7 = y7 at *
              generalize x9 8 = y8 at *
              clear x9
              obtain ⟨av', cv', rfl, j1, j2, j3⟩ := ORow.row o8
              clear j1 j2 j3
              have LP := LB.out.put aw9 o8
              refine wp_storeT (v := .slice av' ((X.take n ++ Y) ++ [x]).length cv') rfl rfl rfl rfl ⟨_, _, _, rfl⟩ (LB.out.c1 aw9) (blk_soft (LB.out.blk9 aw9) 1) (hK9 _ _ ?_)
              generalize w9.setCell ⟨U.heap.size, 1, none⟩ (.slice av' ((X.take n ++ Y) ++ [x]).length cv') = W6 at LP ⊢
              have LB' := hideIt LP
              clear LP LB aw9 o8 o7 hK9 w9 hS9
              go_wp2_with fail
              go_roundw
              case rel =>
                refine ⟨j + 1, Y ++ [x], _, by omega, by omega, by simp; exact LD.out.1, fun y hy => ?_, by go_num, by rw [← List.append_assoc]; exact LB'.out⟩
                rcases List.mem_append.1 hy with h | h
                · exact LD.out.2 y h
                · simp at h; rw [h]; exact ⟨List.mem_of_getElem? HX.out, HE.out⟩
              case measure => simp [intOf]; omega
            · have e1 : ((x.n : Int) == (C.length : Int)) = false := by simp; omega
              clear he
              go_upto_region 14 with fail
              go_quiet (fail)
              have L8 := LB.out.after ((After.rfl (w := wr)).draws nq)
              generalize wr.drewN nq = W8 at L8 ⊢
              have LB' := hideIt L8
              clear L8 LB k0' c0 c1 c2
              go_wp2_with fail
              go_roundw
              case rel => exact ⟨j + 1, Y, _, by omega, by omega, by have := LD.out.1; omega, LD.out.2, by go_num, LB'.out⟩
              case measure => simp [intOf]; omega
          · by_cases hq : j < X2.length
            · have i5 : (j : Int) < (X2.length : Int) := by omega
              have i6 : ¬ (j : Int) < 20 := by omega
              clear hjn
              have d0 := blk_cell LB.out.blk (i := 0) rfl
              have d1 := blk_cell LB.out.blk (i := 1) rfl
              obtain ⟨S1, zS1, eS, t2⟩ := long_text H1.out.1 H1.out.2.2.1 H1.out.2.2.2.1 H1.out.2.2.2.2 HS.out.1 HS.out.2.1 HS.out.2.2.2.2 (HA.out.trans (AW.out.trans LB.out.aft)) (cc := cc) (cl := cl) (cv := cv) LD.out.2 hn (by have := LD.out.1; omega) (by omega) LR.out.1
              generalize (X.take n ++ Y).length = zl at d1 t2
              have T2 := hideIt t2
              clear t2
              go_wp2_with fail
              refine T2.out.mono ?_
              rintro e w6 ⟨rfl, a6⟩
              have A6 := hideIt ((AW.out.trans LB.out.aft).trans a6)
              clear a6 d0 d1 c0 c1 c2 LB LR LC T2
              go_upto_region 17 with fail
              have g1 : ¬ ((n + Y.length : Nat) : Int) < (n : Int) := by omega
              have g2 : n ≤ S1.size := by omega
              have g3 : n ≤ S.size := by omega
              refine region_slots (by kernel_rfl) [79, 80, 81, 82, 83, 84, 85, 86, 87, 88, 89, 90, 91] [isV (.string S1), isV (.int .i64 ((n + Y.length : Nat) : Int)), isV (.int .i64 (n : Int)), isV (.bool false), isV (.bool false), isV (.string S1), isV (.int .i64 (n : Int)), isV (.string (S.extract 0 n)), isV (.string S), isV (.int .i64 (n : Int)), isV (.string (S.extract 0 n)), isV (.bool false), isV (.bool false)] 13 rfl rfl (stable_all (st_cons (isV_st _) (st_cons (isV_st _) (st_cons (isV_st _) (st_cons (isV_st _) (st_cons (isV_st _) (st_cons (isV_st _) (st_cons (isV_st _) (st_cons (isV_st _) (st_cons (isV_st _) (st_cons (isV_st _) (st_cons (isV_st _) (st_cons (isV_st _) (st_cons (isV_st _) (st_nil))))))))))))))) rfl rfl ?_ ?_
              · exact ⟨⟨rfl, rfl, (.inl rfl), fun a W9 K hd hb aw hk => wp_move (.inl rfl) (show a.eval (.tmp 11) = .string S1 from hb 11 rfl) (hk _ _ rfl After.rfl)⟩,
                  ⟨rfl, rfl, (.inl rfl), fun a W9 K hd hb aw hk => wp_len rfl (hd 0 rfl) (lenS _ _ _ zS1 Try.underlying9 _ _) (hk _ _ rfl After.rfl)⟩,
                  ⟨rfl, rfl, (.inl rfl), fun a W9 K hd hb aw hk => wp_move (.inl rfl) (show a.eval (.tmp 8) = .int .i64 (n : Int) from hb 8 rfl) (hk _ _ rfl After.rfl)⟩,
                  ⟨rfl, rfl, (.inl rfl), fun a W9 K hd hb aw hk => wp_bin rfl (hd 1 rfl) (hd 2 rfl) (ltI_no g1 _ _ _) (hk _ _ rfl After.rfl)⟩,
                  ⟨rfl, rfl, (.inl rfl), fun a W9 K hd hb aw hk => wp_move (.inl rfl) (hd 3 rfl) (hk _ _ rfl After.rfl)⟩,
                  ⟨rfl, rfl, (.inr ⟨4, false, rfl, rfl, fun v w h => h⟩), fun a W9 K hd hb aw hk => wp_move (.inl rfl) (show a.eval (.tmp 11) = .string S1 from hb 11 rfl) (hk _ _ rfl After.rfl)⟩,
                  ⟨rfl, rfl, (.inr ⟨4, false, rfl, rfl, fun v w h => h⟩), fun a W9 K hd hb aw hk => wp_move (.inl rfl) (show a.eval (.tmp 8) = .int .i64 (n : Int) from hb 8 rfl) (hk _ _ rfl After.rfl)⟩,
                  ⟨rfl, rfl, (.inr ⟨4, false, rfl, rfl, fun v w h => h⟩), fun a W9 K hd hb aw hk => wp_sliceTo rfl (hd 5 rfl) (hd 6 rfl) (sliceS eS g2 _) (hk _ _ rfl After.rfl)⟩,
                  ⟨rfl, rfl, (.inr ⟨4, false, rfl, rfl, fun v w h => h⟩), fun a W9 K hd hb aw hk => wp_move (.inl rfl) (show a.eval (.tmp 7) = .string S from hb 7 rfl) (hk _ _ rfl After.rfl)⟩,
                  ⟨rfl, rfl, (.inr ⟨4, false, rfl, rfl, fun v w h => h⟩), fun a W9 K hd hb aw hk => wp_move (.inl rfl) (show a.eval (.tmp 8) = .int .i64 (n : Int) from hb 8 rfl) (hk _ _ rfl After.rfl)⟩,
                  ⟨rfl, rfl, (.inr ⟨4, false, rfl, rfl, fun v w h => h⟩), fun a W9 K hd hb aw hk => wp_sliceTo rfl (hd 8 rfl) (hd 9 rfl) (sliceS rfl g3 _) (hk _ _ rfl After.rfl)⟩,
                  ⟨rfl, rfl, (.inr ⟨4, false, rfl, rfl, fun v w h => h⟩), fun a W9 K hd hb aw hk => wp_bin rfl (hd 7 rfl) (hd 10 rfl) (neS_no _ _ _ _) (hk _ _ rfl After.rfl)⟩,
                  ⟨rfl, rfl, (.inl rfl), fun a W9 K hd hb aw hk => wp_pickF rfl (hd 4 rfl) (hd 11 rfl) (hk _ _ rfl After.rfl)⟩,
                  trivial⟩
              intro x9 w9 hx9 aw9
              have t0 : x9 0 = .string S1 := hx9 0 (Nat.le_of_ble_eq_true rfl)
              have t1 : x9 1 = .int .i64 ((n + Y.length : Nat) : Int) := hx9 1 (Nat.le_of_ble_eq_true rfl)
              have t2 : x9 2 = .int .i64 (n : Int) := hx9 2 (Nat.le_of_ble_eq_true rfl)
              have t3 : x9 3 = .bool false := hx9 3 (Nat.le_of_ble_eq_true rfl)
              have t4 : x9 4 = .bool false := hx9 4 (Nat.le_of_ble_eq_true rfl)
              have t5 : x9 5 = .string S1 := hx9 5 (Nat.le_of_ble_eq_true rfl)
              have t6 : x9 6 = .int .i64 (n : Int) := hx9 6 (Nat.le_of_ble_eq_true rfl)
              have t7 : x9 7 = .string (S.extract 0 n) := hx9 7 (Nat.le_of_ble_eq_true rfl)
              have t8 : x9 8 = .string S := hx9 8 (Nat.le_of_ble_eq_true rfl)
              have t9 : x9 9 = .int .i64 (n : Int) := hx9 9 (Nat.le_of_ble_eq_true rfl)
              have t10 : x9 10 = .string (S.extract 0 n) := hx9 10 (Nat.le_of_ble_eq_true rfl)
              have t11 : x9 11 = .bool false := hx9 11 (Nat.le_of_ble_eq_true rfl)
              have t12 : x9 12 = .bool false := hx9 12 (Nat.le_of_ble_eq_true rfl)
              simp only [sets, List.getD_cons_succ, List.getD_cons_zero, List.set_cons_succ, List.set_cons_zero, t0, t1, t2, t3, t4, t5, t6, t7, t8, t9, t10, t11, t12]
              clear hx9 t0 t1 t2 t3 t4 t5 t6 t7 t8 t9 t10 t11 t12 x9
              have A7 := hideIt (A6.out.trans aw9)
              clear aw9 A6 zS1 eS g1 g2 g3
              have e3 : (n : Int).tdiv 3 = ((n / 3 : Nat) : Int) := by rw [Int.natCast_ediv]; exact (Int.tdiv_eq_ediv_of_nonneg (by omega))
              go_wp2_with fail
              go_roundw
              case rel => exact ⟨n + 1 + n / 3, by omega, by omega, by go_num, A7.out⟩
              case measure => simp [intOf]; omega
            · have i5 : ¬ (j : Int) < (X2.length : Int) := by omega
              clear hjn
              have d0 := blk_cell LB.out.blk (i := 0) rfl
              have d1 := blk_cell LB.out.blk (i := 1) rfl
              obtain ⟨S1, zS1, eS, t2⟩ := long_text H1.out.1 H1.out.2.2.1 H1.out.2.2.2.1 H1.out.2.2.2.2 HS.out.1 HS.out.2.1 HS.out.2.2.2.2 (HA.out.trans (AW.out.trans LB.out.aft)) (cc := cc) (cl := cl) (cv := cv) LD.out.2 hn (by have := LD.out.1; omega) (by omega) LR.out.1
              generalize (X.take n ++ Y).length = zl at d1 t2
              have T2 := hideIt t2
              clear t2
              go_wp2_with fail
              refine T2.out.mono ?_
              rintro e w6 ⟨rfl, a6⟩
              have A6 := hideIt ((AW.out.trans LB.out.aft).trans a6)
              clear a6 d0 d1 c0 c1 c2 LB LR LC T2
              go_upto_region 17 with fail
              have g1 : ¬ ((n + Y.length : Nat) : Int) < (n : Int) := by omega
              have g2 : n ≤ S1.size := by omega
              have g3 : n ≤ S.size := by omega
              refine region_slots (by kernel_rfl) [79, 80, 81, 82, 83, 84, 85, 86, 87, 88, 89, 90, 91] [isV (.string S1), isV (.int .i64 ((n + Y.length : Nat) : Int)), isV (.int .i64 (n : Int)), isV (.bool false), isV (.bool false), isV (.string S1), isV (.int .i64 (n : Int)), isV (.string (S.extract 0 n)), isV (.string S), isV (.int .i64 (n : Int)), isV (.string (S.extract 0 n)), isV (.bool false), isV (.bool false)] 13 rfl rfl (stable_all (st_cons (isV_st _) (st_cons (isV_st _) (st_cons (isV_st _) (st_cons (isV_st _) (st_cons (isV_st _) (st_cons (isV_st _) (st_cons (isV_st _) (st_cons (isV_st _) (st_cons (isV_st _) (st_cons (isV_st _) (st_cons (isV_st _) (st_cons (isV_st _) (st_cons (isV_st _) (st_nil))))))))))))))) rfl rfl ?_ ?_
              · exact ⟨⟨rfl, rfl, (.inl rfl), fun a W9 K hd hb aw hk => wp_move (.inl rfl) (show a.eval (.tmp 11) = .string S1 from hb 11 rfl) (hk _ _ rfl After.rfl)⟩,
                  ⟨rfl, rfl, (.inl rfl), fun a W9 K hd hb aw hk => wp_len rfl (hd 0 rfl) (lenS _ _ _ zS1 Try.underlying9 _ _) (hk _ _ rfl After.rfl)⟩,
                  ⟨rfl, rfl, (.inl rfl), fun a W9 K hd hb aw hk => wp_move (.inl rfl) (show a.eval (.tmp 8) = .int .i64 (n : Int) from hb 8 rfl) (hk _ _ rfl After.rfl)⟩,
                  ⟨rfl, rfl, (.inl rfl), fun a W9 K hd hb aw hk => wp_bin rfl (hd 1 rfl) (hd 2 rfl) (ltI_no g1 _ _ _) (hk _ _ rfl After.rfl)⟩,
                  ⟨rfl, rfl, (.inl rfl), fun a W9 K hd hb aw hk => wp_move (.inl rfl) (hd 3 rfl) (hk _ _ rfl After.rfl)⟩,
                  ⟨rfl, rfl, (.inr ⟨4, false, rfl, rfl, fun v w h => h⟩), fun a W9 K hd hb aw hk => wp_move (.inl rfl) (show a.eval (.tmp 11) = .string S1 from hb 11 rfl) (hk _ _ rfl After.rfl)⟩,
                  ⟨rfl, rfl, (.inr ⟨4, false, rfl, rfl, fun v w h => h⟩), fun a W9 K hd hb aw hk => wp_move (.inl rfl) (show a.eval (.tmp 8) = .int .i64 (n : Int) from hb 8 rfl) (hk _ _ rfl After.rfl)⟩,
                  ⟨rfl, rfl, (.inr ⟨4, false, rfl, rfl, fun v w h => h⟩), fun a W9 K hd hb aw hk => wp_sliceTo rfl (hd 5 rfl) (hd 6 rfl) (sliceS eS g2 _) (hk _ _ rfl After.rfl)⟩,
                  ⟨rfl, rfl, (.inr ⟨4, false, rfl, rfl, fun v w h => h⟩), fun a W9 K hd hb aw hk => wp_move (.inl rfl) (show a.eval (.tmp 7) = .string S from hb 7 rfl) (hk _ _ rfl After.rfl)⟩,
                  ⟨rfl, rfl, (.inr ⟨4, false, rfl, rfl, fun v w h => h⟩), fun a W9 K hd hb aw hk => wp_move (.inl rfl) (show a.eval (.tmp 8) = .int .i64 (n : Int) from hb 8 rfl) (hk _ _ rfl After.rfl)⟩,
                  ⟨rfl, rfl, (.inr ⟨4, false, rfl, rfl, fun v w h => h⟩), fun a W9 K hd hb aw hk => wp_sliceTo rfl (hd 8 rfl) (hd 9 rfl) (sliceS rfl g3 _) (hk _ _ rfl After.rfl)⟩,
                  ⟨rfl, rfl, (.inr ⟨4, false, rfl, rfl, fun v w h => h⟩), fun a W9 K hd hb aw hk => wp_bin rfl (hd 7 rfl) (hd 10 rfl) (neS_no _ _ _ _) (hk _ _ rfl After.rfl)⟩,
                  ⟨rfl, rfl, (.inl rfl), fun a W9 K hd hb aw hk => wp_pickF rfl (hd 4 rfl) (hd 11 rfl) (hk _ _ rfl After.rfl)⟩,
                  trivial⟩
              intro x9 w9 hx9 aw9
              have t0 : x9 0 = .string S1 := hx9 0 (Nat.le_of_ble_eq_true rfl)
              have t1 : x9 1 = .int .i64 ((n + Y.length : Nat) : Int) := hx9 1 (Nat.le_of_ble_eq_true rfl)
              have t2 : x9 2 = .int .i64 (n : Int) := hx9 2 (Nat.le_of_ble_eq_true rfl)
              have t3 : x9 3 = .bool false := hx9 3 (Nat.le_of_ble_eq_true rfl)
              have t4 : x9 4 = .bool false := hx9 4 (Nat.le_of_ble_eq_true rfl)
              have t5 : x9 5 = .string S1 := hx9 5 (Nat.le_of_ble_eq_true rfl)
              have t6 : x9 6 = .int .i64 (n : Int) := hx9 6 (Nat.le_of_ble_eq_true rfl)
              have t7 : x9 7 = .string (S.extract 0 n) := hx9 7 (Nat.le_of_ble_eq_true rfl)
              have t8 : x9 8 = .string S := hx9 8 (Nat.le_of_ble_eq_true rfl)
              have t9 : x9 9 = .int .i64 (n : Int) := hx9 9 (Nat.le_of_ble_eq_true rfl)
              have t10 : x9 10 = .string (S.extract 0 n) := hx9 10 (Nat.le_of_ble_eq_true rfl)
              have t11 : x9 11 = .bool false := hx9 11 (Nat.le_of_ble_eq_true rfl)
              have t12 : x9 12 = .bool false := hx9 12 (Nat.le_of_ble_eq_true rfl)
              simp only [sets, List.getD_cons_succ, List.getD_cons_zero, List.set_cons_succ, List.set_cons_zero, t0, t1, t2, t3, t4, t5, t6, t7, t8, t9, t10, t11, t12]
              clear hx9 t0 t1 t2 t3 t4 t5 t6 t7 t8 t9 t10 t11 t12 x9
              have A7 := hideIt (A6.out.trans aw9)
              clear aw9 A6 zS1 eS g1 g2 g3
              have e3 : (n : Int).tdiv 3 = ((n / 3 : Nat) : Int) := by rw [Int.natCast_ediv]; exact (Int.tdiv_eq_ediv_of_nonneg (by omega))
              go_wp2_with fail
              go_roundw
              case rel => exact ⟨n + 1 + n / 3, by omega, by omega, by go_num, A7.out⟩
              case measure => simp [intOf]; omega
      · have i1 : ¬ (n : Int) ≤ (X.length : Int) := by omega
        have AW := hideIt aw
        clear aw n1 n2 hn
        go_wp2_with (at_builtin; refine app_row (E := ndE) rfl (.tmp 92) (.tmp 94) 22 38 Try.underlying22 Try.infoNode rfl (by decide) rfl U.heap.size _ [] rfl (orow_nil ndE _ _ _) (some ⟨U.heap.size, 0, none⟩) 1 1 [Nd.none] rfl (lit_row (heap_alloc_new U _) rfl rfl) (fun h => by cases h) (by unfold maxLen; simp) (by simp) (by simp) ?_; intro v' w1 hown hb; have HO := hideIt (And.intro hown (show After U w1 from (After.rfl.alloc _).then hb (fun i hi h => by cases h))); clear hown hb)
        go_loopw [12, 13] (fun v a wr => ∃ j : Nat, j ≤ L.length ∧ a = .int .i64 j ∧ ORow ndE 38 wr U.heap.size v (Nd.none :: (L.take j).map mv) ∧ After U wr) (fun _ a _ => L.length - (intOf a).toNat)
        case atStart => exact ⟨0, Nat.zero_le _, rfl, HO.out.1, HO.out.2⟩
        case round =>
          clear HO c0 c1
          rename_i v12
          obtain ⟨j, hj, rfl, ho, aw⟩ := hrel
          by_cases hjn : j < L.length
          · have i5 : (j : Int) < (L.length : Int) := by omega
            obtain ⟨b, off, x, rfl, hb, hx, k0, k1, k2, k3⟩ := nrow_at (H1.out.1.after (HA.out.trans (AW.out.trans aw))) hjn
            have hok := okAll_at (chk_zero HS.out.2.1).2.2.2.2 hx
            have HX := hideIt hx
            have HO := hideIt (And.intro ho aw)
            clear ho aw hx
            have sL : (Nd.none :: (L.take j).map mv).length = j + 1 := by simp; omega
            by_cases q6 : 6 ≤ x.op
            · by_cases q7 : x.op = 7
              · have q7' : (x.op == 7) = true := by simp [q7]
                have ha : 0 ≤ x.a ∧ x.a ≤ 31 := by have := okN_ab hok; omega
                have hb' : 0 ≤ x.b ∧ x.b ≤ 31 := by have := okN_ab hok; omega
                have em : mv x = ⟨7, x.a + 1, x.b + 1, x.n⟩ := by unfold mv; simp only [Nd.mk.injEq]; refine ⟨?_, ?_, ?_, ?_⟩ <;> first | rfl | trivial | omega | (split <;> omega)
                clear hok
                go_upto_region 29 with fail
                obtain ⟨W7, hW7⟩ : ∃ W7, W7 = wr.alloc (.cells #[.int .i64 7, .int .i64 (x.a + 1), .int .i64 (x.b + 1), .int .i64 x.n] 38) := ⟨_, rfl⟩
                have b7 : W7.heap[wr.heap.size]? = some (.cells #[.int .i64 (mv x).op, .int .i64 (mv x).a, .int .i64 (mv x).b, .int .i64 (mv x).n] 38 (0, 0)) := by rw [hW7, em]; exact heap_alloc_new wr _
                have a7 : After wr W7 := by rw [hW7]; exact After.rfl.alloc _
                rw [← hW7]
                obtain ⟨y, hy⟩ : ∃ y, mv x = y := ⟨_, rfl⟩
                rw [hy] at b7
                have e0 := blk_cell b7 (i := 0) rfl
                have e1 := blk_cell b7 (i := 1) rfl
                have e2 := blk_cell b7 (i := 2) rfl
                have e3 := blk_cell b7 (i := 3) rfl
                have HM := hideIt (And.intro hy a7)
                clear hW7 em hy b7 a7 k0 k1 k2 k3
                go_wp2_with (at_builtin; refine app_row (E := ndE) rfl (.tmp 130) (.tmp 132) 22 38 Try.underlying22 Try.infoNode rfl (by decide) rfl U.heap.size _ (Nd.none :: (L.take j).map mv) rfl (own_after HO.out.1 (HM.out.2.alloc _)) (some ⟨W7.heap.size, 0, none⟩) 1 1 [y] rfl (lit_row (heap_alloc_new W7 _) rfl rfl) (fun h => by cases h) (by rw [sL]; unfold maxLen; omega) (by rw [sL]; omega) (by have := HO.out.2.size; have := HM.out.2.size; simp; omega) ?_; intro v4 w4 hown hb4; have HP := hideIt (And.intro hown hb4); clear hown hb4)
                go_roundw
                case rel =>
                  have ow := own_after HO.out.1 (HM.out.2.alloc (.cells #[.int .i64 y.op, .int .i64 y.a, .int .i64 y.b, .int .i64 y.n] 38))
                  have e9 : Nd.none :: (L.take (j + 1)).map mv = (Nd.none :: (L.take j).map mv) ++ [y] := by rw [List.take_add_one, HX.out]; simp [HM.out.1]
                  refine ⟨j + 1, by omega, by go_num, ?_, (HO.out.2.trans (HM.out.2.alloc _)).then HP.out.2 (fun i hi h => by have := (ow.lt i h).1; omega)⟩
                  rw [e9]; exact HP.out.1
                case measure => simp [intOf]; omega
              · by_cases q8 : x.op = 8
                · have q8' : (x.op == 8) = true := by simp [q8]
                  have ha : 0 ≤ x.a ∧ x.a ≤ 31 := by have := okN_ab hok; omega
                  have hb' : 0 ≤ x.b ∧ x.b ≤ 31 := by have := okN_ab hok; omega
                  have em : mv x = ⟨8, x.a + 1, x.b + 1, x.n⟩ := by unfold mv; simp only [Nd.mk.injEq]; refine ⟨?_, ?_, ?_, ?_⟩ <;> first | rfl | trivial | omega | (split <;> omega)
                  clear hok
                  go_upto_region 29 with fail
                  obtain ⟨W7, hW7⟩ : ∃ W7, W7 = wr.alloc (.cells #[.int .i64 8, .int .i64 (x.a + 1), .int .i64 (x.b + 1), .int .i64 x.n] 38) := ⟨_, rfl⟩
                  have b7 : W7.heap[wr.heap.size]? = some (.cells #[.int .i64 (mv x).op, .int .i64 (mv x).a, .int .i64 (mv x).b, .int .i64 (mv x).n] 38 (0, 0)) := by rw [hW7, em]; exact heap_alloc_new wr _
                  have a7 : After wr W7 := by rw [hW7]; exact After.rfl.alloc _
                  rw [← hW7]
                  obtain ⟨y, hy⟩ : ∃ y, mv x = y := ⟨_, rfl⟩
                  rw [hy] at b7
                  have e0 := blk_cell b7 (i := 0) rfl
                  have e1 := blk_cell b7 (i := 1) rfl
                  have e2 := blk_cell b7 (i := 2) rfl
                  have e3 := blk_cell b7 (i := 3) rfl
                  have HM := hideIt (And.intro hy a7)
                  clear hW7 em hy b7 a7 k0 k1 k2 k3
                  go_wp2_with (at_builtin; refine app_row (E := ndE) rfl (.tmp 130) (.tmp 132) 22 38 Try.underlying22 Try.infoNode rfl (by decide) rfl U.heap.size _ (Nd.none :: (L.take j).map mv) rfl (own_after HO.out.1 (HM.out.2.alloc _)) (some ⟨W7.heap.size, 0, none⟩) 1 1 [y] rfl (lit_row (heap_alloc_new W7 _) rfl rfl) (fun h => by cases h) (by rw [sL]; unfold maxLen; omega) (by rw [sL]; omega) (by have := HO.out.2.size; have := HM.out.2.size; simp; omega) ?_; intro v4 w4 hown hb4; have HP := hideIt (And.intro hown hb4); clear hown hb4)
                  go_roundw
                  case rel =>
                    have ow := own_after HO.out.1 (HM.out.2.alloc (.cells #[.int .i64 y.op, .int .i64 y.a, .int .i64 y.b, .int .i64 y.n] 38))
                    have e9 : Nd.none :: (L.take (j + 1)).map mv = (Nd.none :: (L.take j).map mv) ++ [y] := by rw [List.take_add_one, HX.out]; simp [HM.out.1]
                    refine ⟨j + 1, by omega, by go_num, ?_, (HO.out.2.trans (HM.out.2.alloc _)).then HP.out.2 (fun i hi h => by have := (ow.lt i h).1; omega)⟩
                    rw [e9]; exact HP.out.1
                  case measure => simp [intOf]; omega
                · by_cases q12 : x.op = 12
                  · have q12' : (x.op == 12) = true := by simp [q12]
                    have ha : 0 ≤ x.a ∧ x.a ≤ 31 := by have := okN_ab hok; omega
                    have hb' : 0 ≤ x.b ∧ x.b ≤ 31 := by have := okN_ab hok; omega
                    have em : mv x = ⟨12, x.a + 1, x.b + 1, x.n⟩ := by unfold mv; simp only [Nd.mk.injEq]; refine ⟨?_, ?_, ?_, ?_⟩ <;> first | rfl | trivial | omega | (split <;> omega)
                    clear hok
                    go_upto_region 29 with fail
                    obtain ⟨W7, hW7⟩ : ∃ W7, W7 = wr.alloc (.cells #[.int .i64 12, .int .i64 (x.a + 1), .int .i64 (x.b + 1), .int .i64 x.n] 38) := ⟨_, rfl⟩
                    have b7 : W7.heap[wr.heap.size]? = some (.cells #[.int .i64 (mv x).op, .int .i64 (mv x).a, .int .i64 (mv x).b, .int .i64 (mv x).n] 38 (0, 0)) := by rw [hW7, em]; exact heap_alloc_new wr _
                    have a7 : After wr W7 := by rw [hW7]; exact After.rfl.alloc _
                    rw [← hW7]
                    obtain ⟨y, hy⟩ : ∃ y, mv x = y := ⟨_, rfl⟩
                    rw [hy] at b7
                    have e0 := blk_cell b7 (i := 0) rfl
                    have e1 := blk_cell b7 (i := 1) rfl
                    have e2 := blk_cell b7 (i := 2) rfl
                    have e3 := blk_cell b7 (i := 3) rfl
                    have HM := hideIt (And.intro hy a7)
                    clear hW7 em hy b7 a7 k0 k1 k2 k3
                    go_wp2_with (at_builtin; refine app_row (E := ndE) rfl (.tmp 130) (.tmp 132) 22 38 Try.underlying22 Try.infoNode rfl (by decide) rfl U.heap.size _ (Nd.none :: (L.take j).map mv) rfl (own_after HO.out.1 (HM.out.2.alloc _)) (some ⟨W7.heap.size, 0, none⟩) 1 1 [y] rfl (lit_row (heap_alloc_new W7 _) rfl rfl) (fun h => by cases h) (by rw [sL]; unfold maxLen; omega) (by rw [sL]; omega) (by have := HO.out.2.size; have := HM.out.2.size; simp; omega) ?_; intro v4 w4 hown hb4; have HP := hideIt (And.intro hown hb4); clear hown hb4)
                    go_roundw
                    case rel =>
                      have ow := own_after HO.out.1 (HM.out.2.alloc (.cells #[.int .i64 y.op, .int .i64 y.a, .int .i64 y.b, .int .i64 y.n] 38))
                      have e9 : Nd.none :: (L.take (j + 1)).map mv = (Nd.none :: (L.take j).map mv) ++ [y] := by rw [List.take_add_one, HX.out]; simp [HM.out.1]
                      refine ⟨j + 1, by omega, by go_num, ?_, (HO.out.2.trans (HM.out.2.alloc _)).then HP.out.2 (fun i hi h => by have := (ow.lt i h).1; omega)⟩
                      rw [e9]; exact HP.out.1
                    case measure => simp [intOf]; omega
                  · have q7' : (x.op == 7) = false := by simp [q7]
                    have q8' : (x.op == 8) = false := by simp [q8]
                    have q12' : (x.op == 12) = false := by simp [q12]
                    have ha : 0 ≤ x.a ∧ x.a ≤ 31 := by have := okN_ab hok; omega
                    have em : mv x = ⟨x.op, x.a + 1, x.b, x.n⟩ := by unfold mv; simp only [Nd.mk.injEq]; refine ⟨?_, ?_, ?_, ?_⟩ <;> first | rfl | trivial | omega | (split <;> omega)
                    clear hok
                    go_upto_region 29 with fail
                    obtain ⟨W7, hW7⟩ : ∃ W7, W7 = wr.alloc (.cells #[.int .i64 x.op, .int .i64 (x.a + 1), .int .i64 (x.b), .int .i64 x.n] 38) := ⟨_, rfl⟩
                    have b7 : W7.heap[wr.heap.size]? = some (.cells #[.int .i64 (mv x).op, .int .i64 (mv x).a, .int .i64 (mv x).b, .int .i64 (mv x).n] 38 (0, 0)) := by rw [hW7, em]; exact heap_alloc_new wr _
                    have a7 : After wr W7 := by rw [hW7]; exact After.rfl.alloc _
                    rw [← hW7]
                    obtain ⟨y, hy⟩ : ∃ y, mv x = y := ⟨_, rfl⟩
                    rw [hy] at b7
                    have e0 := blk_cell b7 (i := 0) rfl
                    have e1 := blk_cell b7 (i := 1) rfl
                    have e2 := blk_cell b7 (i := 2) rfl
                    have e3 := blk_cell b7 (i := 3) rfl
                    have HM := hideIt (And.intro hy a7)
                    clear hW7 em hy b7 a7 k0 k1 k2 k3
                    go_wp2_with (at_builtin; refine app_row (E := ndE) rfl (.tmp 130) (.tmp 132) 22 38 Try.underlying22 Try.infoNode rfl (by decide) rfl U.heap.size _ (Nd.none :: (L.take j).map mv) rfl (own_after HO.out.1 (HM.out.2.alloc _)) (some ⟨W7.heap.size, 0, none⟩) 1 1 [y] rfl (lit_row (heap_alloc_new W7 _) rfl rfl) (fun h => by cases h) (by rw [sL]; unfold maxLen; omega) (by rw [sL]; omega) (by have := HO.out.2.size; have := HM.out.2.size; simp; omega) ?_; intro v4 w4 hown hb4; have HP := hideIt (And.intro hown hb4); clear hown hb4)
                    go_roundw
                    case rel =>
                      have ow := own_after HO.out.1 (HM.out.2.alloc (.cells #[.int .i64 y.op, .int .i64 y.a, .int .i64 y.b, .int .i64 y.n] 38))
                      have e9 : Nd.none :: (L.take (j + 1)).map mv = (Nd.none :: (L.take j).map mv) ++ [y] := by rw [List.take_add_one, HX.out]; simp [HM.out.1]
                      refine ⟨j + 1, by omega, by go_num, ?_, (HO.out.2.trans (HM.out.2.alloc _)).then HP.out.2 (fun i hi h => by have := (ow.lt i h).1; omega)⟩
                      rw [e9]; exact HP.out.1
                    case measure => simp [intOf]; omega
            · have q7' : (x.op == 7) = false := by simp; omega
              have q8' : (x.op == 8) = false := by simp; omega
              have q12' : (x.op == 12) = false := by simp; omega
              have em : mv x = ⟨x.op, x.a, x.b, x.n⟩ := by unfold mv; simp only [Nd.mk.injEq]; refine ⟨?_, ?_, ?_, ?_⟩ <;> first | rfl | trivial | omega | (split <;> omega)
              clear hok
              go_upto_region 29 with fail
              obtain ⟨W7, hW7⟩ : ∃ W7, W7 = wr.alloc (.cells #[.int .i64 x.op, .int .i64 (x.a), .int .i64 (x.b), .int .i64 x.n] 38) := ⟨_, rfl⟩
              have b7 : W7.heap[wr.heap.size]? = some (.cells #[.int .i64 (mv x).op, .int .i64 (mv x).a, .int .i64 (mv x).b, .int .i64 (mv x).n] 38 (0, 0)) := by rw [hW7, em]; exact heap_alloc_new wr _
              have a7 : After wr W7 := by rw [hW7]; exact After.rfl.alloc _
              rw [← hW7]
              obtain ⟨y, hy⟩ : ∃ y, mv x = y := ⟨_, rfl⟩
              rw [hy] at b7
              have e0 := blk_cell b7 (i := 0) rfl
              have e1 := blk_cell b7 (i := 1) rfl
              have e2 := blk_cell b7 (i := 2) rfl
              have e3 := blk_cell b7 (i := 3) rfl
              have HM := hideIt (And.intro hy a7)
              clear hW7 em hy b7 a7 k0 k1 k2 k3
              go_wp2_with (at_builtin; refine app_row (E := ndE) rfl (.tmp 130) (.tmp 132) 22 38 Try.underlying22 Try.infoNode rfl (by decide) rfl U.heap.size _ (Nd.none :: (L.take j).map mv) rfl (own_after HO.out.1 (HM.out.2.alloc _)) (some ⟨W7.heap.size, 0, none⟩) 1 1 [y] rfl (lit_row (heap_alloc_new W7 _) rfl rfl) (fun h => by cases h) (by rw [sL]; unfold maxLen; omega) (by rw [sL]; omega) (by have := HO.out.2.size; have := HM.out.2.size; simp; omega) ?_; intro v4 w4 hown hb4; have HP := hideIt (And.intro hown hb4); clear hown hb4)
              go_roundw
              case rel =>
                have ow := own_after HO.out.1 (HM.out.2.alloc (.cells #[.int .i64 y.op, .int .i64 y.a, .int .i64 y.b, .int .i64 y.n] 38))
                have e9 : Nd.none :: (L.take (j + 1)).map mv = (Nd.none :: (L.take j).map mv) ++ [y] := by rw [List.take_add_one, HX.out]; simp [HM.out.1]
                refine ⟨j + 1, by omega, by go_num, ?_, (HO.out.2.trans (HM.out.2.alloc _)).then HP.out.2 (fun i hi h => by have := (ow.lt i h).1; omega)⟩
                rw [e9]; exact HP.out.1
              case measure => simp [intOf]; omega
          · have i5 : ¬ (j : Int) < (L.length : Int) := by omega
            have hj' : j = L.length := by omega
            rw [hj', List.take_of_length_le (Nat.le_refl _)] at ho
            obtain ⟨am, cm, rfl, hm, hmn, hmo⟩ := ORow.row ho
            have T3 := hideIt (text_past (L := Nd.none :: L.map mv) (C := C) (T := rdsOf X) (pastAt_of (cc := cc) (ct := ct) (H1.out.2.2.1.after (HA.out.trans (AW.out.trans aw))) (H1.out.2.2.2.1.after (HA.out.trans (AW.out.trans aw)))) am cm hm (by have := HS.out.2.2.2.1; omega) (chk_mv HS.out.2.1 HS.out.2.2.1) HS.out.2.2.2.2)
            rw [bitsOf_mv HS.out.2.1, HS.out.1] at T3
            obtain ⟨⟨c0, c1⟩, c2⟩ := HB.out _ (AW.out.trans aw)
            have AX := hideIt (AW.out.trans aw)
            generalize (Nd.none :: L.map mv).length = ml at *
            clear ho hm hmn hmo c2 aw hj'
            go_wp2_with fail
            refine T3.out.mono ?_
            rintro e w6 ⟨rfl, a6⟩
            obtain ⟨⟨d0, d1⟩, d2⟩ := HB.out _ (AX.out.trans a6)
            have A6 := hideIt (AX.out.trans a6)
            have z2 : (S.size : Int) = (X.length : Int) := by omega
            clear a6 c0 c1 d2 T3
            go_wp2_with fail
            go_ret
            exact ⟨rfl, HA.out.trans A6.out⟩
end Go.Proofs.Ytgbaibnlfmeklaa
