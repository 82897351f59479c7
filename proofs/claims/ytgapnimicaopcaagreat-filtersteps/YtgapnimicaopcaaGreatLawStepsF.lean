/-
  FilterSteps walked: the program's task and the document's, step by step.
-/
import Derived.Test.YtgapnimicaopcaaGreatRtG
import Derived.Test.YtgapnimicaopcaaGreatB06
import Derived.Deep.RegionHeld3
import Derived.Laws.StructEq
namespace Go.Proofs.YtgapnimicaopcaaGreat
open Go.RowKit
set_option maxRecDepth 8000
theorem neqRd (x y : Int) (w : World) : (binOp .neq 38 (.agg #[.int .i64 x, .int .i64 y]) (.agg #[.int .i64 x, .int .i64 y])).run Tryz.prog w = .ok (.bool false) w := by
  simp [go_sem]
theorem neqRl (b c d : Int) (w : World) : (binOp .neq 42 (.agg #[.int .i64 b, .int .i64 c, .int .i64 d]) (.agg #[.int .i64 b, .int .i64 c, .int .i64 d])).run Tryz.prog w = .ok (.bool false) w := by
  simp [go_sem]
/-- What is left of a list of one's own of which q reals were written over. -/
def Lft (W : World) (a : Option Addr) (n : Nat) (l : List Rl) (q : Nat) : Prop := 0 < n → ∃ G o cs, a = some ⟨G, o, none⟩ ∧ W.heap[G]? = some (.cells cs 42 (0, 0)) ∧ o + n * 3 ≤ cs.size ∧ ∀ i r, q ≤ i → l[i]? = some r → cs[o + i * 3]? = some (.int .i64 r.k) ∧ cs[o + i * 3 + 1]? = some (.int .i64 r.m) ∧ cs[o + i * 3 + 2]? = some (.int .i64 r.e)
theorem Lft.but {T : Nat → Prop} {W W' : World} {a : Option Addr} {n : Nat} {l : List Rl} {q : Nat} (h : Lft W a n l q) (b : But T W W') (hn : ∀ y, a = some y → 0 < n → ¬ T y.block) : Lft W' a n l q := fun h0 => by
  obtain ⟨G, o, cs, e, hh, r⟩ := h h0
  exact ⟨G, o, cs, e, (b.block G (blk_lt hh) (hn _ e h0)).trans hh, r⟩
theorem Lft.of {W : World} {B : Nat} {a : Option Addr} {n d : Nat} {l : List Rl} (h : ORls W B (.slice a n d) l) (hl : l.length = n) : Lft W a n l 0 := fun h0 => by
  rcases h.2 with ⟨h3, _⟩ | ⟨g, cap, cur, h3, hB, hh, hc, _, hz, ht⟩
  · cases h3; omega
  · simp only [Value.slice.injEq] at h3
    obtain ⟨rfl, _, _⟩ := h3
    refine ⟨g, 0, cur, rfl, hh, by rw [hz]; omega, fun i r _ hr => ?_⟩
    obtain ⟨e0, e1, e2⟩ := rls_at l i r hr
    have hi : i < l.length := (List.getElem?_eq_some_iff.1 hr).1
    have key : ∀ j, j < l.length * 3 → cur[j]? = (rls l)[j]? := fun j hj => by
      rw [← ht, List.getElem?_take_of_lt hj, Array.getElem?_toList]
    rw [Nat.zero_add, key _ (by omega), key _ (by omega), key _ (by omega)]
    exact ⟨e0, e1, e2⟩
theorem Lft.put {W : World} {a : Option Addr} {n : Nat} {l : List Rl} {q G o : Nat} {cs : Array Value} (e : a = some ⟨G, o, none⟩) (hh : W.heap[G]? = some (.cells cs 42 (0, 0))) (hs : o + n * 3 ≤ cs.size) (h : ∀ i r, q ≤ i → l[i]? = some r → cs[o + i * 3]? = some (.int .i64 r.k) ∧ cs[o + i * 3 + 1]? = some (.int .i64 r.m) ∧ cs[o + i * 3 + 2]? = some (.int .i64 r.e)) (x y z : Value) : Lft (((W.setCell ⟨G, o + q * 3, none⟩ x).setCell ⟨G, o + q * 3 + 1, none⟩ y).setCell ⟨G, o + q * 3 + 2, none⟩ z) a n l (q + 1) := fun _ => by
  refine ⟨G, o, _, e, blk_put (blk_put (blk_put hh (o + q * 3) x) (o + q * 3 + 1) y) (o + q * 3 + 2) z, by simpa using hs, fun i r hi hr => ?_⟩
  obtain ⟨e0, e1, e2⟩ := h i r (by omega) hr
  refine ⟨?_, ?_, ?_⟩
  · rw [Array.getElem?_setIfInBounds_ne (by omega), Array.getElem?_setIfInBounds_ne (by omega), Array.getElem?_setIfInBounds_ne (by omega)]; exact e0
  · rw [Array.getElem?_setIfInBounds_ne (by omega), Array.getElem?_setIfInBounds_ne (by omega), Array.getElem?_setIfInBounds_ne (by omega)]; exact e1
  · rw [Array.getElem?_setIfInBounds_ne (by omega), Array.getElem?_setIfInBounds_ne (by omega), Array.getElem?_setIfInBounds_ne (by omega)]; exact e2
set_option maxHeartbeats 8000000 in
theorem law_stepsF (w : World) (k n st : Int) (a : Option Addr) (m d : Nat) (zs : List Stp) (hr : SRow w a m zs) (hm : m ≤ 5864062014634) (hsz : ∀ x ∈ zs, x.n ≤ 5864062014634) :
    Calls Tryz.prog 3 #[fVal k n st, .slice a m d] w fun e w' => e = .returned (.bool true) ∧ After w w' := by
  have HR := hideIt (And.intro hr hsz)
  have hmi : (m : Int) ≤ 5864062014634 := by omega
  clear hr hsz hm
  by_cases hM : MayF k n st
  · obtain ⟨c, hc, rfl, rfl, rfl⟩ := hM.cf
    have H1 : Hid (∀ W, Calls Tryz.prog 4 #[.agg #[.int .i64 (c.k : Int), .int .i64 (c.n : Int), .int .i64 (c.st : Int)]] W fun e w' => ∃ p S, e = .returned (.tuple #[Ptr p, .int .i64 0]) ∧ Tk w' p S c Ts.new ∧ (∀ i, S i → W.heap.size ≤ i) ∧ After W w') := hideIt (fun W => filterNew_ok W c hc)
    have H2 : Hid (∀ W, Calls Tryz.prog 5 #[.agg #[.int .i64 (c.k : Int), .int .i64 (c.n : Int), .int .i64 (c.st : Int)]] W fun e w' => ∃ g S, e = .returned (.tuple #[Ptr g, .int .i64 0]) ∧ Rk w' g S c Ts.new ∧ (∀ i, S i → W.heap.size ≤ i) ∧ After W w') := hideIt (fun W => refNew_ok W c hc)
    have H3 : Hid (∀ W, Calls Tryz.prog 6 #[.agg #[.int .i64 (c.k : Int), .int .i64 (c.n : Int), .int .i64 (c.st : Int)]] W fun e w' => e = .returned (.int .i64 0) ∧ After W w') := hideIt (fun W => check_ok W c hc)
    have H4 : Hid (∀ W, Calls Tryz.prog 7 #[.agg #[.int .i64 (c.k : Int), .int .i64 (c.n : Int), .int .i64 (c.st : Int)]] W fun e w' => e = .returned (.int .i64 0) ∧ After W w') := hideIt (fun W => (refCheckE W c.k c.n c.st).mono (by
      rintro e w' ⟨E, rfl, h1, _, a⟩
      rw [h1 hM]
      exact ⟨rfl, a⟩))
    clear hM hc
    go_enter Tryz.func3, Tryz.ntmps3
    go_wp2_with fail
    refine (H1.out _).mono ?_
    rintro e w1 ⟨p, Sa, rfl, x, hSa, a1⟩
    have hb1 := old_blk' a1 (heap_alloc_new w _)
    have k0 := blk_cell hb1 (i := 0) rfl
    have k1 := blk_cell hb1 (i := 1) rfl
    have k2 := blk_cell hb1 (i := 2) rfl
    have hl1 := blk_lt hb1
    have P1 := hideIt (And.intro x (And.intro hSa (And.intro hb1 ((After.rfl.alloc _).trans a1))))
    clear x hSa a1 hb1 H1
    go_wp2_with fail
    refine (H2.out _).mono ?_
    rintro e w2 ⟨g, Sb, rfl, y, hSb, a2⟩
    have hb2 := old_blk' a2 P1.out.2.2.1
    have q0 := blk_cell hb2 (i := 0) rfl
    have q1 := blk_cell hb2 (i := 1) rfl
    have q2 := blk_cell hb2 (i := 2) rfl
    have hl2 := blk_lt hb2
    have hpr : Pr (Ptr p) (Ptr g) (fun i => Sa i ∨ Sb i) w2 := .inr ⟨p, g, Sa, Sb, c, Ts.new, rfl, rfl, P1.out.1.after a2, y, fun i => Iff.rfl, fun i hi hi2 => by have := P1.out.1.lt i hi; have := hSb i hi2; omega, Int.le_refl 0⟩
    have hlo : ∀ i, Sa i ∨ Sb i → w.heap.size ≤ i := fun i hi => by
      rcases hi with hi | hi
      · have := P1.out.2.1 i hi; simp at this; omega
      · have := hSb i hi; have := P1.out.2.2.2.size; omega
    have P2 := hideIt (And.intro hpr (And.intro hlo (P1.out.2.2.2.trans a2)))
    clear y hSb a2 hb2 H2 hpr hlo k0 k1 k2 hl1 P1
    go_wp2_with fail
    go_region_held3 (fun W => W.cell? ⟨w.heap.size, 0, none⟩ = some (.int .i64 (c.k : Int)) ∧ W.cell? ⟨w.heap.size, 1, none⟩ = some (.int .i64 (c.n : Int)) ∧ W.cell? ⟨w.heap.size, 2, none⟩ = some (.int .i64 (c.st : Int))) (first | go_keep | exact ⟨x0, x1, x2⟩ | exact ⟨y0, y1, y2⟩)
      (first
        | (go_at_call 6; refine (H3.out _).mono ?_; rintro e w3 ⟨rfl, a3⟩; have HA3 := hideIt ((After.rfl.draws 1).trans a3); have x0 := (HA3.out.cell (g := w.heap.size) (by assumption) 0).trans q0; have x1 := (HA3.out.cell (g := w.heap.size) (by assumption) 1).trans q1; have x2 := (HA3.out.cell (g := w.heap.size) (by assumption) 2).trans q2; clear a3)
        | (go_at_call 7; refine (H4.out _).mono ?_; rintro e w4 ⟨rfl, a4⟩; have HA4 := hideIt (HA3.out.trans a4); have y0 := (HA4.out.cell (g := w.heap.size) (by assumption) 0).trans q0; have y1 := (HA4.out.cell (g := w.heap.size) (by assumption) 1).trans q1; have y2 := (HA4.out.cell (g := w.heap.size) (by assumption) 2).trans q2; clear a4))
    have HP := hideIt (And.intro (P2.out.1.after HA4.out) (And.intro P2.out.2.1 (P2.out.2.2.trans HA4.out)))
    clear P2 HA3 HA4 x0 x1 x2 y0 y1 y2 q0 q1 q2 hl2 H3 H4
    go_wp2_with fail
    go_loopw [9] (fun i wr => ∃ (j : Nat) (S : Nat → Prop), j ≤ m ∧ i = .int .i64 j ∧ Pr (Ptr p) (Ptr g) S wr ∧ (∀ i, S i → w.heap.size ≤ i) ∧ After w wr) (fun i _ => m - (intOf i).toNat)
    case atStart => exact ⟨0, _, Nat.zero_le _, rfl, HP.out⟩
    case round =>
      obtain ⟨j, S, hj, rfl, pr, hlo, aw⟩ := hrel
      clear HP
      by_cases hjm : j < m
      · have i1 : (j : Int) < (m : Int) := by omega
        obtain ⟨b, off, x, hsa, hbl, hx, l0, l1, hin⟩ := HR.out.1.at_ hjm
        cases hsa
        have hxn := HR.out.2 x (List.mem_of_getElem? hx)
        have l0' := (aw.cell hbl _).trans l0
        have l1' := (aw.cell hbl _).trans l1
        have hlt : b < wr.heap.size := Nat.lt_of_lt_of_le hbl aw.size
        have HX := hideIt (And.intro hbl (And.intro l0 (And.intro l1 hin)))
        have HPr := hideIt (And.intro pr (And.intro hlo aw))
        have H5 := hideIt (copied_any wr x.a x.n x.d x.l (hin.1.after aw) hin.2 hxn)
        have hxi : (x.n : Int) ≤ 5864062014634 := by omega
        clear pr hlo aw hbl l0 l1 hin hx hxn
        go_wp2_with fail
        refine H5.out.mono ?_
        rintro e w5 ⟨v5, rfl, own, a5⟩
        have hxl : x.l.length = x.n := HX.out.2.2.2.1.1
        obtain ⟨ia, ic, rfl, irow, _, iblk⟩ := own_rrow own
        rw [hxl] at own irow ⊢
        have aw5 := HPr.out.2.2.trans a5
        have l0' := (aw5.cell HX.out.1 _).trans HX.out.2.1
        have hlt : b < w5.heap.size := Nat.lt_of_lt_of_le HX.out.1 aw5.size
        have hni : ∀ y, ia = some y → 0 < x.n → ¬ S y.block := fun y hy _ hs => by have := (iblk y hy).1; have := HPr.out.1.lt _ hs; omega
        have H6 := hideIt ((HPr.out.1.after a5).stepA x.tick ia x.n ic x.l irow hni)
        have HL5 := hideIt (And.intro (Lft.of own hxl) (And.intro iblk aw5))
        have hlo5 := HPr.out.2.1
        have HS5 := hideIt (And.intro hlo5 (And.intro (fun i hi => Nat.lt_of_lt_of_le (HPr.out.1.lt i hi) a5.size) (And.intro a5.size hxl)))
        clear own irow iblk a5 aw5 hni hlo5 H5 l1' hxl
        go_wp2_with fail
        refine H6.out.mono ?_
        rintro e w6 ⟨R, E, S6, rfl, pq, hS6, b6⟩
        have HQ6 := hideIt (And.intro pq (And.intro hS6 b6))
        clear pq hS6 b6 H6 l0' hlt
        go_wp2_with fail
        generalize hw7 : World.alloc w6 _ = w7
        have a67 : After w6 w7 := hw7 ▸ After.rfl.alloc _
        have hg11 := (show w7.heap[w6.heap.size]? = _ from hw7 ▸ heap_alloc_new w6 _)
        clear hw7
        have aw6 : After w w6 := HL5.out.2.2.then HQ6.out.2.2 (fun i hi hs => by have := HS5.out.1 i hs; omega)
        have aw7 := aw6.trans a67
        have HPq := hideIt (HQ6.out.1.after a67)
        have HSl := hideIt HPq.out.lt
        have hlo6 : ∀ i, S6 i → w.heap.size ≤ i := fun i hi => by
          rcases HQ6.out.2.1 i hi with h | h
          · exact HS5.out.1 i h
          · have := HL5.out.2.2.size; omega
        have HNx : Hid (∀ y, x.a = some y → 0 < x.n → ¬ S6 y.block) := fun y hy h0 h => by
          obtain ⟨bb, oo, e1, e2⟩ := HX.out.2.2.2.1.lt h0
          rw [e1] at hy
          cases hy
          have e3 : w.heap.size ≤ bb := hlo6 _ h
          omega
        have HCe : Hid (∀ W, But (fun i => S6 i ∨ w7.heap.size ≤ i) w7 W → W.cell? ⟨b, off + j * 2, none⟩ = some (.int .i64 x.tick) ∧ W.cell? ⟨b, off + j * 2 + 1, none⟩ = some (.slice x.a x.n x.d) ∧ RRow W x.a x.n x.l) := fun W bW => by
          have aW : After w W := aw7.then bW (fun i hi t => by
            have e5 := aw7.size
            rcases t with t | t
            · have := hlo6 _ t; omega
            · omega)
          exact ⟨(aW.cell HX.out.1 _).trans HX.out.2.1, (aW.cell HX.out.1 _).trans HX.out.2.2.1, HX.out.2.2.2.1.after aW⟩
        have H7 := hideIt (And.intro hg11 (And.intro aw7 (And.intro hlo6 a67)))
        clear hg11 aw6 aw7 hlo6 a67
        refine region_inv (by kernel_rfl) (Tab.J (⟨18, fun i => [67, 68, 69, 70, 71, 72, 73, 74, 75, 76, 77, 78, 66, 79, 80, 13, 1018, 14].getD i 0, fun i => ([some (Ptr g), some (.slice (some ⟨b, off, none⟩) m d), some (.int .i64 (j : Int)), some (.pointer (some ⟨b, off + j * 2, none⟩)), some (.pointer (some ⟨b, off + j * 2, none⟩)), some (.int .i64 x.tick), some (.slice (some ⟨b, off, none⟩) m d), some (.int .i64 (j : Int)), some (.pointer (some ⟨b, off + j * 2, none⟩)), some (.pointer (some ⟨b, off + j * 2 + 1, none⟩)), some (.slice x.a x.n x.d), some (.tuple #[.agg #[.int .i64 R.s, .int .i64 R.v], .int .i64 E]), some (.tuple #[.agg #[.int .i64 R.s, .int .i64 R.v], .int .i64 E]), some (.agg #[.int .i64 R.s, .int .i64 R.v]), some (.int .i64 E), none, none, some (.int .i64 E)] : List (Option Value)).getD i none, StG 11 15 16 w7 S6 (fun W => Pq (Ptr p) (Ptr g) x.tick x.l R E S6 W) (fun S W => Pr (Ptr p) (Ptr g) S W) R⟩ : Tab) _) ⟨rfl, rfl, fun _ _ => rfl, (fun _ _ _ _ h => by cases h), StG.first HPq.out (fun w w' a p => p.after a)⟩ ?_ ?_
        · exact ⟨inv_move (.inl rfl) rfl rfl rfl rfl rfl rfl rfl rfl (StG.keep (neB rfl) (neB rfl) (neB rfl) (neB rfl)) rfl,
            inv_move (.inl rfl) rfl rfl rfl rfl rfl rfl rfl rfl (StG.keep (neB rfl) (neB rfl) (neB rfl) (neB rfl)) rfl,
            inv_move (.inl rfl) rfl rfl rfl rfl rfl rfl rfl rfl (StG.keep (neB rfl) (neB rfl) (neB rfl) (neB rfl)) rfl,
            inv_index rfl rfl rfl rfl rfl rfl rfl rfl rfl (StG.keep (neB rfl) (neB rfl) (neB rfl) (neB rfl)) rfl rfl (fun w => indexS w _ _ _ _ _ i1),
            inv_field rfl rfl rfl rfl rfl rfl rfl rfl rfl (StG.keep (neB rfl) (neB rfl) (neB rfl) (neB rfl)) rfl (fun w => fieldS0 w _ _),
            inv_load rfl rfl rfl rfl rfl rfl rfl rfl rfl (StG.keep (neB rfl) (neB rfl) (neB rfl) (neB rfl)) rfl (fun L u w h => loadI (HCe.out w h.bw).1),
            inv_move (.inl rfl) rfl rfl rfl rfl rfl rfl rfl rfl (StG.keep (neB rfl) (neB rfl) (neB rfl) (neB rfl)) rfl,
            inv_move (.inl rfl) rfl rfl rfl rfl rfl rfl rfl rfl (StG.keep (neB rfl) (neB rfl) (neB rfl) (neB rfl)) rfl,
            inv_index rfl rfl rfl rfl rfl rfl rfl rfl rfl (StG.keep (neB rfl) (neB rfl) (neB rfl) (neB rfl)) rfl rfl (fun w => indexS w _ _ _ _ _ i1),
            inv_field rfl rfl rfl rfl rfl rfl rfl rfl rfl (StG.keep (neB rfl) (neB rfl) (neB rfl) (neB rfl)) rfl (fun w => fieldS1 w _ _),
            inv_load rfl rfl rfl rfl rfl rfl rfl rfl rfl (StG.keep (neB rfl) (neB rfl) (neB rfl) (neB rfl)) rfl (fun L u w h => loadL (HCe.out w h.bw).2.1),
            inv_call rfl rfl rfl rfl rfl rfl rfl rfl (enterP Tryz.func10 (by kernel_rfl) (by kernel_rfl)) (fun a w L hv hd hl h => by
              rw [show (#[Operand.tmp 67, Operand.tmp 72, Operand.tmp 77] : Array Operand).map a.eval = #[a.eval (.tmp 67), a.eval (.tmp 72), a.eval (.tmp 77)] from by simp, hv (.tmp 67) _ rfl, hv (.tmp 72) _ rfl, hv (.tmp 77) _ rfl]
              refine ((h.p0 hl).1.stepB x.a x.n x.d (HCe.out w h.bw).2.2 HNx.out).mono ?_
              rintro e w' ⟨rfl, S', pr', h1, h2⟩
              exact ⟨_, rfl, (fun v' h' => by cases h'; rfl), h.called HSl.out hl (neB rfl) (neB rfl) (neB rfl) ⟨S', pr', h1, pr'.lt, h2⟩⟩),
            inv_move (.inl rfl) rfl rfl rfl rfl rfl rfl rfl rfl (StG.keep (neB rfl) (neB rfl) (neB rfl) (neB rfl)) rfl,
            inv_extract rfl rfl rfl rfl rfl rfl rfl rfl rfl (StG.keep (neB rfl) (neB rfl) (neB rfl) (neB rfl)) rfl (fun w => run_extract0 _ _ w),
            inv_extract rfl rfl rfl rfl rfl rfl rfl rfl rfl (StG.keep (neB rfl) (neB rfl) (neB rfl) (neB rfl)) rfl (fun w => run_extract1 _ _ w),
            inv_alloc rfl rfl rfl rfl rfl rfl rfl rfl rfl run_allocReading (fun L u w hl h => StG.alloc (fun w w' a p => p.after a) (fun S w w' a p => p.after a) hl h (neB rfl) (neB rfl)),
            inv_store rfl rfl rfl rfl rfl rfl rfl (fun L a w _ hd hl h => by
              obtain ⟨g, hg, hh, hW⟩ := StG.store (fun S g w w' b hn p => p.but b (fun i hi e => by cases e; exact hn hi)) h hl (hd 11 rfl) (hd 15 rfl) (neB rfl) (neB rfl)
              refine ⟨_, ?_, hW⟩
              rw [show a.eval (.tmp 13) = Ptr g from hg]
              exact run_storeReading hh _ _),
            inv_move (.inr rfl) rfl rfl rfl rfl rfl rfl rfl rfl (StG.keep (neB rfl) (neB rfl) (neB rfl) (neB rfl)) rfl,
            trivial⟩
        intro a8 w8 L8 hL8 J8
        have e8 := J8.fin hL8 rfl
        have W8 := J8.other
        obtain ⟨g8, hg8, hge8, hb8⟩ := W8.al (hL8 15 (Nat.le_of_ble_eq_true rfl))
        rw [hL8 16 (Nat.le_of_ble_eq_true rfl)] at hb8
        obtain ⟨S8, pr8, hS8, hlt8, hn8⟩ := W8.p1 (hL8 11 (Nat.le_of_ble_eq_true rfl))
        have bw8 := W8.bw
        clear J8 W8 hn8
        rw [e8]
        clear e8
        generalize hv8 : Tab.u _ a8 = U8 at *
        simp only [Tab.puts, List.getD_cons_succ, List.getD_cons_zero, Option.getD_some, Option.getD_none, hg8, List.setIfInBounds_toArray, List.set_cons_succ, List.set_cons_zero, List.set_nil]
        clear hg8 hv8 hL8
        clear U8
        have hl6 := blk_lt H7.out.1
        have hb11 := (bw8.block w6.heap.size hl6 (fun t => by rcases t with t | t; exact absurd (HQ6.out.1.lt _ t) (Nat.lt_irrefl _); omega)).trans H7.out.1
        have c0 := blk_cell hb11 (i := 0) rfl
        have c1 := blk_cell hb11 (i := 1) rfl
        have d0 := blk_cell hb8 (i := 0) rfl
        have d1 := blk_cell hb8 (i := 1) rfl
        have hlA := blk_lt hb11
        have hlB := blk_lt hb8
        have hnq := fun W => neqRd R.s R.v W
        have aw8 : After w w8 := H7.out.2.1.then bw8 (fun i hi t => by
          have e5 := H7.out.2.1.size
          rcases t with t | t
          · have := H7.out.2.2.1 _ t; omega
          · omega)
        have hlo8 : ∀ i, S8 i → w.heap.size ≤ i := fun i hi => by
          have e5 := H7.out.2.1.size
          rcases hS8 i hi with h | h
          · exact H7.out.2.2.1 i h
          · omega
        have H8 := hideIt (And.intro pr8 (And.intro hlo8 (And.intro aw8 (And.intro hS8 bw8))))
        clear pr8 hlo8 aw8 hS8 bw8 hb11 hb8 hge8 hl6 HCe HNx hlt8
        go_wp2_with fail
        clear c0 c1 d0 d1 hlA hlB hnq
        have LF : Lft w8 ia x.n x.l 0 := by
          refine ((HL5.out.1.but HQ6.out.2.2 (fun y hy _ hs => by have := HS5.out.2.1 _ hs; have := (HL5.out.2.1 y hy).2; have := (HL5.out.2.1 y hy).1; have := HPr.out.1.lt _ hs; omega)).but H7.out.2.2.2 (fun _ _ _ t => t)).but H8.out.2.2.2.2 (fun y hy _ t => ?_)
          have e1 := (HL5.out.2.1 y hy).2
          have e2 := (HL5.out.2.1 y hy).1
          have e3 := HQ6.out.2.2.size
          have e4 := H7.out.2.2.2.size
          rcases t with t | t
          · rcases HQ6.out.2.1 _ t with h | h
            · have := HPr.out.1.lt _ h; omega
            · omega
          · omega
        have hnS : ∀ y, ia = some y → ¬ S8 y.block := fun y hy t => by
          have e1 := (HL5.out.2.1 y hy).2
          have e2 := (HL5.out.2.1 y hy).1
          have e3 := HQ6.out.2.2.size
          have e4 := H7.out.2.2.2.size
          rcases H8.out.2.2.2.1 _ t with t | t
          · rcases HQ6.out.2.1 _ t with h | h
            · have := HPr.out.1.lt _ h; omega
            · omega
          · omega
        have hgeG : ∀ y, ia = some y → w.heap.size ≤ y.block := fun y hy => by
          have e2 := (HL5.out.2.1 y hy).1
          have := HPr.out.2.2.size
          omega
        have H9 := hideIt (And.intro LF (And.intro hnS (And.intro hgeG HS5.out.2.2.2)))
        clear LF hnS hgeG HQ6 HL5 HS5 HPq HSl H7
        go_loopw [15] (fun i wr' => ∃ q : Nat, q ≤ x.n ∧ i = .int .i64 q ∧ Lft wr' ia x.n x.l q ∧ Pr (Ptr p) (Ptr g) S8 wr' ∧ After w wr') (fun i _ => x.n - (intOf i).toNat)
        case atStart => exact ⟨0, Nat.zero_le _, rfl, H9.out.1, H8.out.1, H8.out.2.2.1⟩
        case round =>
          obtain ⟨q, hq, rfl, lf, pr, aw⟩ := hrel
          by_cases hqn : q < x.n
          · have i2 : (q : Int) < (x.n : Int) := by omega
            obtain ⟨G, o, cs, hia, hG, hcs, hel⟩ := lf (by omega)
            have hxq : x.l[q]? = some (x.l[q]'(by rw [H9.out.2.2.2]; exact hqn)) := List.getElem?_eq_getElem _
            obtain ⟨r, hr⟩ : ∃ r, x.l[q]'(by rw [H9.out.2.2.2]; exact hqn) = r := ⟨_, rfl⟩
            rw [hr] at hxq
            clear hr
            obtain ⟨m0, m1, m2⟩ := hel q r (Nat.le_refl _) hxq
            have z0 := blk_cell hG m0
            have z1 := blk_cell hG m1
            have z2 := blk_cell hG m2
            have hlG := blk_lt hG
            have l1' := (aw.cell HX.out.1 _).trans HX.out.2.2.1
            have hlt : b < wr.heap.size := Nat.lt_of_lt_of_le HX.out.1 aw.size
            obtain ⟨b2, off2, r2, hxa, hb2, hxr, u0, u1, u2⟩ := HX.out.2.2.2.1.at_ hqn
            have hrr : r2 = r := by rw [hxq] at hxr; injection hxr with h; exact h.symm
            subst hrr
            have u0' := (aw.cell hb2 _).trans u0
            have u1' := (aw.cell hb2 _).trans u1
            have u2' := (aw.cell hb2 _).trans u2
            have hlt2 : b2 < wr.heap.size := Nat.lt_of_lt_of_le hb2 aw.size
            have hnq := fun W => neqRl r2.k r2.m r2.e W
            have HLq := hideIt (And.intro hia (And.intro hG (And.intro hcs (And.intro hel (And.intro pr aw)))))
            have HMq := hideIt (And.intro m0 (And.intro m1 m2))
            rw [hxa] at l1'
            clear hxa
            subst hia
            clear lf hG hcs hel pr aw m0 m1 m2 hxq hb2 hxr u0 u1 u2
            go_wp2_with fail
            go_quiet (fail)
            generalize hwd : World.drewN wr _ = wd
            have aq : After wr wd := hwd ▸ After.rfl.draws _
            have hGd := old_blk' aq HLq.out.2.1
            have t0 := blk_soft hGd (o + q * 3)
            have t1 := blk_soft (blk_put hGd (o + q * 3) (.int .i64 0)) (o + q * 3 + 1)
            have t2 := blk_soft (blk_put (blk_put hGd (o + q * 3) (.int .i64 0)) (o + q * 3 + 1) (.int .i64 77)) (o + q * 3 + 2)
            have f0 := blk_cell hGd HMq.out.1
            have f1 := blk_cell (blk_put hGd (o + q * 3) (.int .i64 0)) (i := o + q * 3 + 1) ((Array.getElem?_setIfInBounds_ne (by omega)).trans HMq.out.2.1)
            have f2 := blk_cell (blk_put (blk_put hGd (o + q * 3) (.int .i64 0)) (o + q * 3 + 1) (.int .i64 77)) (i := o + q * 3 + 2) ((Array.getElem?_setIfInBounds_ne (by omega)).trans ((Array.getElem?_setIfInBounds_ne (by omega)).trans HMq.out.2.2))
            have hlG' := blk_lt hGd
            have HGd := hideIt (And.intro hGd aq)
            clear hwd hGd aq z0 z1 z2 u0' u1' u2' l1' hlt hlt2 hlG hnq
            go_wp2_with fail
            go_roundw
            case rel =>
              obtain ⟨hia, hG, hcs, hel, pr, aw⟩ := HLq.out
              have b3 : But (One G) wd (((wd.setCell ⟨G, o + q * 3, none⟩ (.int .i64 0)).setCell ⟨G, o + q * 3 + 1, none⟩ (.int .i64 77)).setCell ⟨G, o + q * 3 + 2, none⟩ (.int .i64 0)) := ((but_one wd G _ _).trans (but_one _ G _ _)).trans (but_one _ G _ _)
              refine ⟨q + 1, by omega, by go_num, Lft.put rfl HGd.out.1 hcs hel _ _ _, (pr.after HGd.out.2).but b3 (fun i hi e => ?_), (aw.trans HGd.out.2).then b3 (fun i hi e => ?_)⟩
              · cases e
                exact H9.out.2.1 _ rfl hi
              · cases e
                have h9 : w.heap.size ≤ G := H9.out.2.2.1 _ rfl
                omega
            case measure => simp [intOf]; omega
          · have i2 : ¬ (q : Int) < (x.n : Int) := by omega
            have HE := hideIt (And.intro pr aw)
            clear lf pr aw
            go_wp2_with fail
            go_roundw
            case rel => exact ⟨j + 1, S8, by omega, by go_num, HE.out.1, H8.out.2.1, HE.out.2⟩
            case measure => simp [intOf]; omega
      · have i1 : ¬ (j : Int) < (m : Int) := by omega
        have HE := hideIt aw
        clear pr aw
        go_wp2_with fail
        refine (works_any _).mono ?_
        rintro e w9 ⟨rfl, a9⟩
        go_wp2_with fail
        go_ret
        exact ⟨rfl, HE.out.trans a9⟩
  · have H1 : Hid (∀ W, Calls Tryz.prog 4 #[.agg #[.int .i64 k, .int .i64 n, .int .i64 st]] W fun e w' => e = .returned (.tuple #[.pointer none, .int .i64 2]) ∧ After W w') := hideIt (fun W => filterNew_no W k n st hM)
    have H2 : Hid (∀ W, Calls Tryz.prog 5 #[.agg #[.int .i64 k, .int .i64 n, .int .i64 st]] W fun e w' => e = .returned (.tuple #[.pointer none, .int .i64 2]) ∧ After W w') := hideIt (fun W => refNew_no W k n st hM)
    have H3 : Hid (∀ W, Calls Tryz.prog 6 #[.agg #[.int .i64 k, .int .i64 n, .int .i64 st]] W fun e w' => e = .returned (.int .i64 2) ∧ After W w') := hideIt (fun W => check_no W k n st hM)
    have H4 : Hid (∀ W, Calls Tryz.prog 7 #[.agg #[.int .i64 k, .int .i64 n, .int .i64 st]] W fun e w' => e = .returned (.int .i64 2) ∧ After W w') := hideIt (fun W => (refCheckE W k n st).mono (by
      rintro e w' ⟨E, rfl, _, h1, a⟩
      rw [h1 hM]
      exact ⟨rfl, a⟩))
    clear hM
    go_enter Tryz.func3, Tryz.ntmps3
    go_wp2_with fail
    refine (H1.out _).mono ?_
    rintro e w1 ⟨rfl, a1⟩
    have hb1 := old_blk' a1 (heap_alloc_new w _)
    have k0 := blk_cell hb1 (i := 0) rfl
    have k1 := blk_cell hb1 (i := 1) rfl
    have k2 := blk_cell hb1 (i := 2) rfl
    have hl1 := blk_lt hb1
    have P1 := hideIt (And.intro hb1 ((After.rfl.alloc _).trans a1))
    clear a1 hb1 H1
    go_wp2_with fail
    refine (H2.out _).mono ?_
    rintro e w2 ⟨rfl, a2⟩
    have hb2 := old_blk' a2 P1.out.1
    have q0 := blk_cell hb2 (i := 0) rfl
    have q1 := blk_cell hb2 (i := 1) rfl
    have q2 := blk_cell hb2 (i := 2) rfl
    have hl2 := blk_lt hb2
    have P2 : Hid (Pr (.pointer none) (.pointer none) (fun _ => False) w2 ∧ (∀ i : Nat, False → w.heap.size ≤ i) ∧ After w w2) := hideIt ⟨.inl ⟨rfl, rfl, fun _ h => h⟩, fun _ h => h.elim, P1.out.2.trans a2⟩
    clear a2 hb2 H2 k0 k1 k2 hl1 P1
    go_wp2_with fail
    go_region_held3 (fun W => W.cell? ⟨w.heap.size, 0, none⟩ = some (.int .i64 k) ∧ W.cell? ⟨w.heap.size, 1, none⟩ = some (.int .i64 n) ∧ W.cell? ⟨w.heap.size, 2, none⟩ = some (.int .i64 st)) (first | go_keep | exact ⟨x0, x1, x2⟩ | exact ⟨y0, y1, y2⟩)
      (first
        | (go_at_call 6; refine (H3.out _).mono ?_; rintro e w3 ⟨rfl, a3⟩; have HA3 := hideIt ((After.rfl.draws 1).trans a3); have x0 := (HA3.out.cell (g := w.heap.size) (by assumption) 0).trans q0; have x1 := (HA3.out.cell (g := w.heap.size) (by assumption) 1).trans q1; have x2 := (HA3.out.cell (g := w.heap.size) (by assumption) 2).trans q2; clear a3)
        | (go_at_call 7; refine (H4.out _).mono ?_; rintro e w4 ⟨rfl, a4⟩; have HA4 := hideIt (HA3.out.trans a4); have y0 := (HA4.out.cell (g := w.heap.size) (by assumption) 0).trans q0; have y1 := (HA4.out.cell (g := w.heap.size) (by assumption) 1).trans q1; have y2 := (HA4.out.cell (g := w.heap.size) (by assumption) 2).trans q2; clear a4))
    have HP := hideIt (And.intro (P2.out.1.after HA4.out) (And.intro P2.out.2.1 (P2.out.2.2.trans HA4.out)))
    clear P2 HA3 HA4 x0 x1 x2 y0 y1 y2 q0 q1 q2 hl2 H3 H4
    go_wp2_with fail
    go_loopw [9] (fun i wr => ∃ (j : Nat) (S : Nat → Prop), j ≤ m ∧ i = .int .i64 j ∧ Pr (.pointer none) (.pointer none) S wr ∧ (∀ i, S i → w.heap.size ≤ i) ∧ After w wr) (fun i _ => m - (intOf i).toNat)
    case atStart => exact ⟨0, _, Nat.zero_le _, rfl, HP.out⟩
    case round =>
      obtain ⟨j, S, hj, rfl, pr, hlo, aw⟩ := hrel
      clear HP
      by_cases hjm : j < m
      · have i1 : (j : Int) < (m : Int) := by omega
        obtain ⟨b, off, x, hsa, hbl, hx, l0, l1, hin⟩ := HR.out.1.at_ hjm
        cases hsa
        have hxn := HR.out.2 x (List.mem_of_getElem? hx)
        have l0' := (aw.cell hbl _).trans l0
        have l1' := (aw.cell hbl _).trans l1
        have hlt : b < wr.heap.size := Nat.lt_of_lt_of_le hbl aw.size
        have HX := hideIt (And.intro hbl (And.intro l0 (And.intro l1 hin)))
        have HPr := hideIt (And.intro pr (And.intro hlo aw))
        have H5 := hideIt (copied_any wr x.a x.n x.d x.l (hin.1.after aw) hin.2 hxn)
        have hxi : (x.n : Int) ≤ 5864062014634 := by omega
        clear pr hlo aw hbl l0 l1 hin hx hxn
        go_wp2_with fail
        refine H5.out.mono ?_
        rintro e w5 ⟨v5, rfl, own, a5⟩
        have hxl : x.l.length = x.n := HX.out.2.2.2.1.1
        obtain ⟨ia, ic, rfl, irow, _, iblk⟩ := own_rrow own
        rw [hxl] at own irow ⊢
        have aw5 := HPr.out.2.2.trans a5
        have l0' := (aw5.cell HX.out.1 _).trans HX.out.2.1
        have hlt : b < w5.heap.size := Nat.lt_of_lt_of_le HX.out.1 aw5.size
        have hni : ∀ y, ia = some y → 0 < x.n → ¬ S y.block := fun y hy _ hs => by have := (iblk y hy).1; have := HPr.out.1.lt _ hs; omega
        have H6 := hideIt ((HPr.out.1.after a5).stepA x.tick ia x.n ic x.l irow hni)
        have HL5 := hideIt (And.intro (Lft.of own hxl) (And.intro iblk aw5))
        have hlo5 := HPr.out.2.1
        have HS5 := hideIt (And.intro hlo5 (And.intro (fun i hi => Nat.lt_of_lt_of_le (HPr.out.1.lt i hi) a5.size) (And.intro a5.size hxl)))
        clear own irow iblk a5 aw5 hni hlo5 H5 l1' hxl
        go_wp2_with fail
        refine H6.out.mono ?_
        rintro e w6 ⟨R, E, S6, rfl, pq, hS6, b6⟩
        have HQ6 := hideIt (And.intro pq (And.intro hS6 b6))
        clear pq hS6 b6 H6 l0' hlt
        go_wp2_with fail
        generalize hw7 : World.alloc w6 _ = w7
        have a67 : After w6 w7 := hw7 ▸ After.rfl.alloc _
        have hg11 := (show w7.heap[w6.heap.size]? = _ from hw7 ▸ heap_alloc_new w6 _)
        clear hw7
        have aw6 : After w w6 := HL5.out.2.2.then HQ6.out.2.2 (fun i hi hs => by have := HS5.out.1 i hs; omega)
        have aw7 := aw6.trans a67
        have HPq := hideIt (HQ6.out.1.after a67)
        have HSl := hideIt HPq.out.lt
        have hlo6 : ∀ i, S6 i → w.heap.size ≤ i := fun i hi => by
          rcases HQ6.out.2.1 i hi with h | h
          · exact HS5.out.1 i h
          · have := HL5.out.2.2.size; omega
        have HNx : Hid (∀ y, x.a = some y → 0 < x.n → ¬ S6 y.block) := fun y hy h0 h => by
          obtain ⟨bb, oo, e1, e2⟩ := HX.out.2.2.2.1.lt h0
          rw [e1] at hy
          cases hy
          have e3 : w.heap.size ≤ bb := hlo6 _ h
          omega
        have HCe : Hid (∀ W, But (fun i => S6 i ∨ w7.heap.size ≤ i) w7 W → W.cell? ⟨b, off + j * 2, none⟩ = some (.int .i64 x.tick) ∧ W.cell? ⟨b, off + j * 2 + 1, none⟩ = some (.slice x.a x.n x.d) ∧ RRow W x.a x.n x.l) := fun W bW => by
          have aW : After w W := aw7.then bW (fun i hi t => by
            have e5 := aw7.size
            rcases t with t | t
            · have := hlo6 _ t; omega
            · omega)
          exact ⟨(aW.cell HX.out.1 _).trans HX.out.2.1, (aW.cell HX.out.1 _).trans HX.out.2.2.1, HX.out.2.2.2.1.after aW⟩
        have H7 := hideIt (And.intro hg11 (And.intro aw7 (And.intro hlo6 a67)))
        clear hg11 aw6 aw7 hlo6 a67
        refine region_inv (by kernel_rfl) (Tab.J (⟨18, fun i => [67, 68, 69, 70, 71, 72, 73, 74, 75, 76, 77, 78, 66, 79, 80, 13, 1018, 14].getD i 0, fun i => ([some (.pointer none), some (.slice (some ⟨b, off, none⟩) m d), some (.int .i64 (j : Int)), some (.pointer (some ⟨b, off + j * 2, none⟩)), some (.pointer (some ⟨b, off + j * 2, none⟩)), some (.int .i64 x.tick), some (.slice (some ⟨b, off, none⟩) m d), some (.int .i64 (j : Int)), some (.pointer (some ⟨b, off + j * 2, none⟩)), some (.pointer (some ⟨b, off + j * 2 + 1, none⟩)), some (.slice x.a x.n x.d), some (.tuple #[.agg #[.int .i64 R.s, .int .i64 R.v], .int .i64 E]), some (.tuple #[.agg #[.int .i64 R.s, .int .i64 R.v], .int .i64 E]), some (.agg #[.int .i64 R.s, .int .i64 R.v]), some (.int .i64 E), none, none, some (.int .i64 E)] : List (Option Value)).getD i none, StG 11 15 16 w7 S6 (fun W => Pq (.pointer none) (.pointer none) x.tick x.l R E S6 W) (fun S W => Pr (.pointer none) (.pointer none) S W) R⟩ : Tab) _) ⟨rfl, rfl, fun _ _ => rfl, (fun _ _ _ _ h => by cases h), StG.first HPq.out (fun w w' a p => p.after a)⟩ ?_ ?_
        · exact ⟨inv_move (.inl rfl) rfl rfl rfl rfl rfl rfl rfl rfl (StG.keep (neB rfl) (neB rfl) (neB rfl) (neB rfl)) rfl,
            inv_move (.inl rfl) rfl rfl rfl rfl rfl rfl rfl rfl (StG.keep (neB rfl) (neB rfl) (neB rfl) (neB rfl)) rfl,
            inv_move (.inl rfl) rfl rfl rfl rfl rfl rfl rfl rfl (StG.keep (neB rfl) (neB rfl) (neB rfl) (neB rfl)) rfl,
            inv_index rfl rfl rfl rfl rfl rfl rfl rfl rfl (StG.keep (neB rfl) (neB rfl) (neB rfl) (neB rfl)) rfl rfl (fun w => indexS w _ _ _ _ _ i1),
            inv_field rfl rfl rfl rfl rfl rfl rfl rfl rfl (StG.keep (neB rfl) (neB rfl) (neB rfl) (neB rfl)) rfl (fun w => fieldS0 w _ _),
            inv_load rfl rfl rfl rfl rfl rfl rfl rfl rfl (StG.keep (neB rfl) (neB rfl) (neB rfl) (neB rfl)) rfl (fun L u w h => loadI (HCe.out w h.bw).1),
            inv_move (.inl rfl) rfl rfl rfl rfl rfl rfl rfl rfl (StG.keep (neB rfl) (neB rfl) (neB rfl) (neB rfl)) rfl,
            inv_move (.inl rfl) rfl rfl rfl rfl rfl rfl rfl rfl (StG.keep (neB rfl) (neB rfl) (neB rfl) (neB rfl)) rfl,
            inv_index rfl rfl rfl rfl rfl rfl rfl rfl rfl (StG.keep (neB rfl) (neB rfl) (neB rfl) (neB rfl)) rfl rfl (fun w => indexS w _ _ _ _ _ i1),
            inv_field rfl rfl rfl rfl rfl rfl rfl rfl rfl (StG.keep (neB rfl) (neB rfl) (neB rfl) (neB rfl)) rfl (fun w => fieldS1 w _ _),
            inv_load rfl rfl rfl rfl rfl rfl rfl rfl rfl (StG.keep (neB rfl) (neB rfl) (neB rfl) (neB rfl)) rfl (fun L u w h => loadL (HCe.out w h.bw).2.1),
            inv_call rfl rfl rfl rfl rfl rfl rfl rfl (enterP Tryz.func10 (by kernel_rfl) (by kernel_rfl)) (fun a w L hv hd hl h => by
              rw [show (#[Operand.tmp 67, Operand.tmp 72, Operand.tmp 77] : Array Operand).map a.eval = #[a.eval (.tmp 67), a.eval (.tmp 72), a.eval (.tmp 77)] from by simp, hv (.tmp 67) _ rfl, hv (.tmp 72) _ rfl, hv (.tmp 77) _ rfl]
              refine ((h.p0 hl).1.stepB x.a x.n x.d (HCe.out w h.bw).2.2 HNx.out).mono ?_
              rintro e w' ⟨rfl, S', pr', h1, h2⟩
              exact ⟨_, rfl, (fun v' h' => by cases h'; rfl), h.called HSl.out hl (neB rfl) (neB rfl) (neB rfl) ⟨S', pr', h1, pr'.lt, h2⟩⟩),
            inv_move (.inl rfl) rfl rfl rfl rfl rfl rfl rfl rfl (StG.keep (neB rfl) (neB rfl) (neB rfl) (neB rfl)) rfl,
            inv_extract rfl rfl rfl rfl rfl rfl rfl rfl rfl (StG.keep (neB rfl) (neB rfl) (neB rfl) (neB rfl)) rfl (fun w => run_extract0 _ _ w),
            inv_extract rfl rfl rfl rfl rfl rfl rfl rfl rfl (StG.keep (neB rfl) (neB rfl) (neB rfl) (neB rfl)) rfl (fun w => run_extract1 _ _ w),
            inv_alloc rfl rfl rfl rfl rfl rfl rfl rfl rfl run_allocReading (fun L u w hl h => StG.alloc (fun w w' a p => p.after a) (fun S w w' a p => p.after a) hl h (neB rfl) (neB rfl)),
            inv_store rfl rfl rfl rfl rfl rfl rfl (fun L a w _ hd hl h => by
              obtain ⟨g, hg, hh, hW⟩ := StG.store (fun S g w w' b hn p => p.but b (fun i hi e => by cases e; exact hn hi)) h hl (hd 11 rfl) (hd 15 rfl) (neB rfl) (neB rfl)
              refine ⟨_, ?_, hW⟩
              rw [show a.eval (.tmp 13) = Ptr g from hg]
              exact run_storeReading hh _ _),
            inv_move (.inr rfl) rfl rfl rfl rfl rfl rfl rfl rfl (StG.keep (neB rfl) (neB rfl) (neB rfl) (neB rfl)) rfl,
            trivial⟩
        intro a8 w8 L8 hL8 J8
        have e8 := J8.fin hL8 rfl
        have W8 := J8.other
        obtain ⟨g8, hg8, hge8, hb8⟩ := W8.al (hL8 15 (Nat.le_of_ble_eq_true rfl))
        rw [hL8 16 (Nat.le_of_ble_eq_true rfl)] at hb8
        obtain ⟨S8, pr8, hS8, hlt8, hn8⟩ := W8.p1 (hL8 11 (Nat.le_of_ble_eq_true rfl))
        have bw8 := W8.bw
        clear J8 W8 hn8
        rw [e8]
        clear e8
        generalize hv8 : Tab.u _ a8 = U8 at *
        simp only [Tab.puts, List.getD_cons_succ, List.getD_cons_zero, Option.getD_some, Option.getD_none, hg8, List.setIfInBounds_toArray, List.set_cons_succ, List.set_cons_zero, List.set_nil]
        clear hg8 hv8 hL8
        clear U8
        have hl6 := blk_lt H7.out.1
        have hb11 := (bw8.block w6.heap.size hl6 (fun t => by rcases t with t | t; exact absurd (HQ6.out.1.lt _ t) (Nat.lt_irrefl _); omega)).trans H7.out.1
        have c0 := blk_cell hb11 (i := 0) rfl
        have c1 := blk_cell hb11 (i := 1) rfl
        have d0 := blk_cell hb8 (i := 0) rfl
        have d1 := blk_cell hb8 (i := 1) rfl
        have hlA := blk_lt hb11
        have hlB := blk_lt hb8
        have hnq := fun W => neqRd R.s R.v W
        have aw8 : After w w8 := H7.out.2.1.then bw8 (fun i hi t => by
          have e5 := H7.out.2.1.size
          rcases t with t | t
          · have := H7.out.2.2.1 _ t; omega
          · omega)
        have hlo8 : ∀ i, S8 i → w.heap.size ≤ i := fun i hi => by
          have e5 := H7.out.2.1.size
          rcases hS8 i hi with h | h
          · exact H7.out.2.2.1 i h
          · omega
        have H8 := hideIt (And.intro pr8 (And.intro hlo8 (And.intro aw8 (And.intro hS8 bw8))))
        clear pr8 hlo8 aw8 hS8 bw8 hb11 hb8 hge8 hl6 HCe HNx hlt8
        go_wp2_with fail
        clear c0 c1 d0 d1 hlA hlB hnq
        have LF : Lft w8 ia x.n x.l 0 := by
          refine ((HL5.out.1.but HQ6.out.2.2 (fun y hy _ hs => by have := HS5.out.2.1 _ hs; have := (HL5.out.2.1 y hy).2; have := (HL5.out.2.1 y hy).1; have := HPr.out.1.lt _ hs; omega)).but H7.out.2.2.2 (fun _ _ _ t => t)).but H8.out.2.2.2.2 (fun y hy _ t => ?_)
          have e1 := (HL5.out.2.1 y hy).2
          have e2 := (HL5.out.2.1 y hy).1
          have e3 := HQ6.out.2.2.size
          have e4 := H7.out.2.2.2.size
          rcases t with t | t
          · rcases HQ6.out.2.1 _ t with h | h
            · have := HPr.out.1.lt _ h; omega
            · omega
          · omega
        have hnS : ∀ y, ia = some y → ¬ S8 y.block := fun y hy t => by
          have e1 := (HL5.out.2.1 y hy).2
          have e2 := (HL5.out.2.1 y hy).1
          have e3 := HQ6.out.2.2.size
          have e4 := H7.out.2.2.2.size
          rcases H8.out.2.2.2.1 _ t with t | t
          · rcases HQ6.out.2.1 _ t with h | h
            · have := HPr.out.1.lt _ h; omega
            · omega
          · omega
        have hgeG : ∀ y, ia = some y → w.heap.size ≤ y.block := fun y hy => by
          have e2 := (HL5.out.2.1 y hy).1
          have := HPr.out.2.2.size
          omega
        have H9 := hideIt (And.intro LF (And.intro hnS (And.intro hgeG HS5.out.2.2.2)))
        clear LF hnS hgeG HQ6 HL5 HS5 HPq HSl H7
        go_loopw [15] (fun i wr' => ∃ q : Nat, q ≤ x.n ∧ i = .int .i64 q ∧ Lft wr' ia x.n x.l q ∧ Pr (.pointer none) (.pointer none) S8 wr' ∧ After w wr') (fun i _ => x.n - (intOf i).toNat)
        case atStart => exact ⟨0, Nat.zero_le _, rfl, H9.out.1, H8.out.1, H8.out.2.2.1⟩
        case round =>
          obtain ⟨q, hq, rfl, lf, pr, aw⟩ := hrel
          by_cases hqn : q < x.n
          · have i2 : (q : Int) < (x.n : Int) := by omega
            obtain ⟨G, o, cs, hia, hG, hcs, hel⟩ := lf (by omega)
            have hxq : x.l[q]? = some (x.l[q]'(by rw [H9.out.2.2.2]; exact hqn)) := List.getElem?_eq_getElem _
            obtain ⟨r, hr⟩ : ∃ r, x.l[q]'(by rw [H9.out.2.2.2]; exact hqn) = r := ⟨_, rfl⟩
            rw [hr] at hxq
            clear hr
            obtain ⟨m0, m1, m2⟩ := hel q r (Nat.le_refl _) hxq
            have z0 := blk_cell hG m0
            have z1 := blk_cell hG m1
            have z2 := blk_cell hG m2
            have hlG := blk_lt hG
            have l1' := (aw.cell HX.out.1 _).trans HX.out.2.2.1
            have hlt : b < wr.heap.size := Nat.lt_of_lt_of_le HX.out.1 aw.size
            obtain ⟨b2, off2, r2, hxa, hb2, hxr, u0, u1, u2⟩ := HX.out.2.2.2.1.at_ hqn
            have hrr : r2 = r := by rw [hxq] at hxr; injection hxr with h; exact h.symm
            subst hrr
            have u0' := (aw.cell hb2 _).trans u0
            have u1' := (aw.cell hb2 _).trans u1
            have u2' := (aw.cell hb2 _).trans u2
            have hlt2 : b2 < wr.heap.size := Nat.lt_of_lt_of_le hb2 aw.size
            have hnq := fun W => neqRl r2.k r2.m r2.e W
            have HLq := hideIt (And.intro hia (And.intro hG (And.intro hcs (And.intro hel (And.intro pr aw)))))
            have HMq := hideIt (And.intro m0 (And.intro m1 m2))
            rw [hxa] at l1'
            clear hxa
            subst hia
            clear lf hG hcs hel pr aw m0 m1 m2 hxq hb2 hxr u0 u1 u2
            go_wp2_with fail
            go_quiet (fail)
            generalize hwd : World.drewN wr _ = wd
            have aq : After wr wd := hwd ▸ After.rfl.draws _
            have hGd := old_blk' aq HLq.out.2.1
            have t0 := blk_soft hGd (o + q * 3)
            have t1 := blk_soft (blk_put hGd (o + q * 3) (.int .i64 0)) (o + q * 3 + 1)
            have t2 := blk_soft (blk_put (blk_put hGd (o + q * 3) (.int .i64 0)) (o + q * 3 + 1) (.int .i64 77)) (o + q * 3 + 2)
            have f0 := blk_cell hGd HMq.out.1
            have f1 := blk_cell (blk_put hGd (o + q * 3) (.int .i64 0)) (i := o + q * 3 + 1) ((Array.getElem?_setIfInBounds_ne (by omega)).trans HMq.out.2.1)
            have f2 := blk_cell (blk_put (blk_put hGd (o + q * 3) (.int .i64 0)) (o + q * 3 + 1) (.int .i64 77)) (i := o + q * 3 + 2) ((Array.getElem?_setIfInBounds_ne (by omega)).trans ((Array.getElem?_setIfInBounds_ne (by omega)).trans HMq.out.2.2))
            have hlG' := blk_lt hGd
            have HGd := hideIt (And.intro hGd aq)
            clear hwd hGd aq z0 z1 z2 u0' u1' u2' l1' hlt hlt2 hlG hnq
            go_wp2_with fail
            go_roundw
            case rel =>
              obtain ⟨hia, hG, hcs, hel, pr, aw⟩ := HLq.out
              have b3 : But (One G) wd (((wd.setCell ⟨G, o + q * 3, none⟩ (.int .i64 0)).setCell ⟨G, o + q * 3 + 1, none⟩ (.int .i64 77)).setCell ⟨G, o + q * 3 + 2, none⟩ (.int .i64 0)) := ((but_one wd G _ _).trans (but_one _ G _ _)).trans (but_one _ G _ _)
              refine ⟨q + 1, by omega, by go_num, Lft.put rfl HGd.out.1 hcs hel _ _ _, (pr.after HGd.out.2).but b3 (fun i hi e => ?_), (aw.trans HGd.out.2).then b3 (fun i hi e => ?_)⟩
              · cases e
                exact H9.out.2.1 _ rfl hi
              · cases e
                have h9 : w.heap.size ≤ G := H9.out.2.2.1 _ rfl
                omega
            case measure => simp [intOf]; omega
          · have i2 : ¬ (q : Int) < (x.n : Int) := by omega
            have HE := hideIt (And.intro pr aw)
            clear lf pr aw
            go_wp2_with fail
            go_roundw
            case rel => exact ⟨j + 1, S8, by omega, by go_num, HE.out.1, H8.out.2.1, HE.out.2⟩
            case measure => simp [intOf]; omega
      · have i1 : ¬ (j : Int) < (m : Int) := by omega
        have HE := hideIt aw
        clear pr aw
        go_wp2_with fail
        refine (works_any _).mono ?_
        rintro e w9 ⟨rfl, a9⟩
        go_wp2_with fail
        go_ret
        exact ⟨rfl, HE.out.trans a9⟩
end Go.Proofs.YtgapnimicaopcaaGreat
