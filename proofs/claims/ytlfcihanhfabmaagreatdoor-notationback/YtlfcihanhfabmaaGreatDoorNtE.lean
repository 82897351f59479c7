/-
  The reader's brackets, atoms and unary operations; the whole grammar.
-/
import Derived.Test.YtlfcihanhfabmaaGreatDoorNtD
namespace Go.Proofs.YtlfcihanhfabmaaGreatDoor
open Go.RowKit
set_option maxRecDepth 8000
open L1 (S)
theorem RdX.setD {w0 w : World} {g : Nat} {s : W8} {d : Nat} {v : Value} {ts : List (Nat × W8)} {ns : List Nd} (x : RdX w0 w g s d v ts ns) (i : Nat) (hi : i ≤ 32) : RdX w0 (w.setCell ⟨g, 3, none⟩ (.int .i64 (i : Int))) g s i v ts ns :=
  { x with m := x.m.setD i, deep := hi }
theorem eq_L {wd l : W8} : ((S wd).toList == l) = decide (wd = l) := by
  have := S_eq wd l
  rwa [ByteArray.toList_eq (S l), L1.S_list] at this
set_option maxHeartbeats 400000 in
theorem br_does {w0 : World} {g : Nat} {s : W8} {d n : Nat} {p : List W8 → List Nd → Rs} (hf : ∀ ws ns, Fine (p ws ns) ws ns) (D : d < 32 → Does 49 w0 g s (d + 1) p n) {w : World} {v : Value} {ts : List (Nat × W8)} {ns : List Nd} (hn : ts.tail.length < n) (x : RdX w0 w g s d v ts ns) :
    Calls Tryz.prog 121 #[Ptr g] w fun e w' => Told w0 g s d v w (brP d p (wds ts) ns) e w' := by
  obtain ⟨hg, c0, c1, c2, c3, c4, hz⟩ := five_at x.m.blk
  have HX := hideIt x
  have HN := hideIt hn
  by_cases hd32 : d < 32
  · have i1 : (d : Int) < 32 := by omega
    have z3 := hz 3
    have HD := hideIt (D hd32)
    have HX1 := hideIt (x.setD (d + 1) hd32)
    have e1 : ((d + 1 : Nat) : Int) = (d : Int) + 1 := by omega
    rw [e1] at HX1
    have e0 : brP d p (wds ts) ns = bnd (p (wds ts).tail ns) (fun g => if hd g.ws = [41] then .ok ⟨g.i, g.ws.tail, g.ns⟩ else .error g.ws.length) := by unfold brP; rw [if_pos hd32]
    have H32 := hideIt hd32
    rcases hr : p (wds ts).tail ns with k | h
    · have HW : Hid (brP d p (wds ts) ns = .error k) := hideIt (e0.trans (bnd_no hr))
      have HR := hideIt hr
      clear x hn D hr e0 hz e1 hd32 hf
      go_enter Tryz.func121, Tryz.ntmps121
      go_wp2_with (first
        | (go_at_call 50; refine (must_yes g _).mono ?_; rintro e w1 ⟨rfl, rfl⟩)
        | (go_at_call 48; refine (rdNext_any HX1.out).mono ?_; rintro e w2 ⟨rfl, y, b2⟩; have HY := hideIt (And.intro y b2); clear y b2)
        | (go_at_call 49; refine (HD.out.no (k := k) (by rw [wds_tail]; exact HR.out) HN.out HY.out.1).mono ?_; rintro e w3 ⟨rfl, b3⟩; have HB := hideIt b3; clear b3))
      refine ⟨rfl, ?_⟩
      rw [HW.out]
      exact ⟨rfl, (Goes.one ((but_one _ _ _ _).trans HY.out.2)).ends HB.out⟩
    · have HR := hideIt hr
      have e2 := e0.trans (bnd_ok hr)
      have f1 := hf (wds ts).tail ns
      rw [hr] at f1
      by_cases hc : hd h.ws = [41]
      · rw [if_pos hc] at e2
        have HW := hideIt e2
        have HC := hideIt hc
        clear x hn D hr e0 e2 hz e1 hd32 hc hf f1
        go_enter Tryz.func121, Tryz.ntmps121
        go_wp2_with fail
        refine (must_yes g _).mono ?_
        rintro e w1 ⟨rfl, rfl⟩
        go_wp2_with fail
        refine (rdNext_any HX1.out).mono ?_
        rintro e w2 ⟨rfl, y, b2⟩
        have HY := hideIt (And.intro y b2)
        clear y b2
        go_wp2_with fail
        refine (HD.out.yes (h := h) (by rw [wds_tail]; exact HR.out) HN.out HY.out.1).mono ?_
        rintro e w3 ⟨v3, ts3, e3, rfl, y3, k3⟩
        obtain ⟨-, p0, p1, p2, p3, p4, -⟩ := five_at y3.m.blk
        have hcb : ((S (hdT ts3)).toList == [41]) = true := by
          rw [eq_L, ← hd_wds, e3, HC.out]; rfl
        have HY3 := hideIt (And.intro e3 (And.intro y3 k3))
        clear e3 y3 k3
        go_wp2_with fail
        refine (must_yes g _).mono ?_
        rintro e w4 ⟨rfl, rfl⟩
        go_wp2_with fail
        refine (rdNext_any HY3.out.2.1).mono ?_
        rintro e w5 ⟨rfl, y, b5⟩
        obtain ⟨q9, q0, q1, q2, q3, q4, qz⟩ := five_at y.m.blk
        have qz3 := qz 3
        have HY5 := hideIt (And.intro y b5)
        have q3' : w5.cell? ⟨g, 3, none⟩ = some (.int .i64 ((d : Int) + 1)) := by rw [q3]; congr 2
        clear y b5 qz q3
        go_wp2
        go_ret
        rw [HW.out]
        have hx := HY5.out.1.setD d (by have := H32.out; omega)
        have hds : (d : Int) + 1 - 1 = (d : Int) := by omega
        refine ⟨v3, ts3.tail, by rw [wds_tail, HY3.out.1], rfl, ?_, ?_⟩
        · exact hx
        · exact (((Goes.one ((but_one _ _ _ _).trans HY.out.2)).trans HY3.out.2.2).trans (Goes.one HY5.out.2)).trans (Goes.one (but_one _ _ _ _))
      · rw [if_neg hc] at e2
        have HW := hideIt e2
        have HC := hideIt hc
        clear x hn D hr e0 e2 hz e1 hd32 hc hf f1
        go_enter Tryz.func121, Tryz.ntmps121
        go_wp2_with fail
        refine (must_yes g _).mono ?_
        rintro e w1 ⟨rfl, rfl⟩
        go_wp2_with fail
        refine (rdNext_any HX1.out).mono ?_
        rintro e w2 ⟨rfl, y, b2⟩
        have HY := hideIt (And.intro y b2)
        clear y b2
        go_wp2_with fail
        refine (HD.out.yes (h := h) (by rw [wds_tail]; exact HR.out) HN.out HY.out.1).mono ?_
        rintro e w3 ⟨v3, ts3, e3, rfl, y3, k3⟩
        obtain ⟨-, p0, p1, p2, p3, p4, -⟩ := five_at y3.m.blk
        have hcb : ((S (hdT ts3)).toList == [41]) = false := by
          rw [eq_L, ← hd_wds, e3]; simpa using HC.out
        have HY3 := hideIt (And.intro e3 (And.intro y3 k3))
        clear e3 y3 k3
        go_wp2_with fail
        refine (must_no HY3.out.2.1.m).mono ?_
        rintro e w4 ⟨rfl, rfl⟩
        go_wp2_with fail
        refine ⟨rfl, ?_⟩
        rw [HW.out]
        exact ⟨by rw [← HY3.out.2.1.cur.plc, ← HY3.out.1, wds_length], ((Goes.one ((but_one _ _ _ _).trans HY.out.2)).trans HY3.out.2.2).but⟩
  · have i1 : ¬ (d : Int) < 32 := by omega
    have HW : Hid (brP d p (wds ts) ns = .error (wds ts).length) := hideIt (by unfold brP; rw [if_neg hd32])
    clear x hn D hz hd32 hf
    go_enter Tryz.func121, Tryz.ntmps121
    go_wp2_with fail
    refine (must_no HX.out.m).mono ?_
    rintro e w1 ⟨rfl, rfl⟩
    go_wp2_with fail
    refine ⟨rfl, ?_⟩
    rw [HW.out]
    exact ⟨by rw [← HX.out.cur.plc, wds_length], But.rfl⟩
theorem Reads.told {w0 : World} {g : Nat} {s : W8} {d : Nat} {v : Value} {w : World} {ns : List Nd} {ts : List (Nat × W8)} {k : Nat} {e : Ending} {w' : World} (h : Reads w0 g s d v w ns none ts k e w') : e = .panicked (Plc (plc s k)) ∧ After w w' := h
/-- A store into a block of one's own, made behind. -/
theorem RdX.far {w0 w w' : World} {g q : Nat} {s : W8} {d : Nat} {v : Value} {ts : List (Nat × W8)} {ns : List Nd} (x : RdX w0 w g s d v ts ns) (b : But (One q) w w') (hq : q ≠ g) (hv : v.ownBlock ≠ some q) (h0 : w0.heap.size ≤ q) : RdX w0 w' g s d v ts ns :=
  x.but b (fun e => hq e.symm) (fun k hk e => hv (by rw [hk, show k = q from e])) (fun k hk e => by rw [show k = q from e] at hk; omega)
theorem Goes.far {g q : Nat} {v v1 : Value} {w w1 w2 : World} (a : Goes g v w v1 w1) (b : But (One q) w1 w2) (hq : w.heap.size ≤ q) : Goes g v w v1 w2 :=
  ⟨a.but.then b (fun i hi e => absurd (show i = q from e) (by omega)), a.new⟩
/-- The words behind a channel, in their order. -/
def atomN (ws : W8) : Nat := if ws = [62] then 0 else if ws = [60] then 1 else if ws = wHigh then 2 else if ws = wLow then 3 else if ws = wKnown then 4 else 5
theorem atomN_no (ws : W8) : ∀ j, j < atomN ws → j < 5 → ¬ ws = wordOf ((j : Int) + 1) := by
  intro j hj h5
  unfold atomN at hj
  by_cases h0 : ws = [62]
  · rw [if_pos h0] at hj; omega
  rw [if_neg h0] at hj
  by_cases h1 : ws = [60]
  · rw [if_pos h1] at hj
    have : j = 0 := by omega
    subst this; exact h0
  rw [if_neg h1] at hj
  by_cases h2 : ws = wHigh
  · rw [if_pos h2] at hj
    rcases (by omega : j = 0 ∨ j = 1) with rfl | rfl
    · exact h0
    · exact h1
  rw [if_neg h2] at hj
  by_cases h3 : ws = wLow
  · rw [if_pos h3] at hj
    rcases (by omega : j = 0 ∨ j = 1 ∨ j = 2) with rfl | rfl | rfl
    · exact h0
    · exact h1
    · exact h2
  rw [if_neg h3] at hj
  by_cases h4 : ws = wKnown
  · rw [if_pos h4] at hj
    rcases (by omega : j = 0 ∨ j = 1 ∨ j = 2 ∨ j = 3) with rfl | rfl | rfl | rfl
    · exact h0
    · exact h1
    · exact h2
    · exact h3
  rcases (by omega : j = 0 ∨ j = 1 ∨ j = 2 ∨ j = 3 ∨ j = 4) with rfl | rfl | rfl | rfl | rfl
  · exact h0
  · exact h1
  · exact h2
  · exact h3
  · exact h4
theorem atomN_yes (ws : W8) : (atomN ws = 0 ∧ ws = [62]) ∨ (atomN ws = 1 ∧ ws = [60]) ∨ (atomN ws = 2 ∧ ws = wHigh) ∨ (atomN ws = 3 ∧ ws = wLow) ∨ (atomN ws = 4 ∧ ws = wKnown) ∨ (atomN ws = 5 ∧ ¬ ws = [62] ∧ ¬ ws = [60] ∧ ¬ ws = wHigh ∧ ¬ ws = wLow ∧ ¬ ws = wKnown) := by
  unfold atomN
  by_cases h0 : ws = [62]
  · rw [if_pos h0]; exact .inl ⟨rfl, h0⟩
  rw [if_neg h0]
  by_cases h1 : ws = [60]
  · rw [if_pos h1]; exact .inr (.inl ⟨rfl, h1⟩)
  rw [if_neg h1]
  by_cases h2 : ws = wHigh
  · rw [if_pos h2]; exact .inr (.inr (.inl ⟨rfl, h2⟩))
  rw [if_neg h2]
  by_cases h3 : ws = wLow
  · rw [if_pos h3]; exact .inr (.inr (.inr (.inl ⟨rfl, h3⟩)))
  rw [if_neg h3]
  by_cases h4 : ws = wKnown
  · rw [if_pos h4]; exact .inr (.inr (.inr (.inr (.inl ⟨rfl, h4⟩))))
  rw [if_neg h4]
  exact .inr (.inr (.inr (.inr (.inr ⟨rfl, h0, h1, h2, h3, h4⟩))))
theorem chP_is (c : Nat) (ws : List W8) (ns : List Nd) : (atomN (hd ws) = 0 → chP c ws ns = cmpP 1 c ws.tail ns) ∧ (atomN (hd ws) = 1 → chP c ws ns = cmpP 2 c ws.tail ns) ∧ (∀ k, 2 ≤ k → k < 5 → atomN (hd ws) = k → chP c ws ns = putN ns ⟨(k : Int) + 1, c, 0, 0⟩ ws.tail) ∧ (atomN (hd ws) = 5 → chP c ws ns = .error ws.length) := by
  unfold chP
  rcases atomN_yes (hd ws) with ⟨e, h⟩ | ⟨e, h⟩ | ⟨e, h⟩ | ⟨e, h⟩ | ⟨e, h⟩ | ⟨e, h0, h1, h2, h3, h4⟩
  · rw [e, if_pos h]
    exact ⟨fun _ => rfl, fun h => by omega, fun k h1 h2 h3 => by omega, fun h => by omega⟩
  · rw [e, h]
    exact ⟨fun h => by omega, fun _ => rfl, fun k h1 h2 h3 => by omega, fun h => by omega⟩
  · rw [e, h]
    exact ⟨fun h => by omega, fun h => by omega, fun k h1 h2 h3 => by obtain rfl : k = 2 := h3.symm; rfl, fun h => by omega⟩
  · rw [e, h]
    exact ⟨fun h => by omega, fun h => by omega, fun k h1 h2 h3 => by obtain rfl : k = 3 := h3.symm; rfl, fun h => by omega⟩
  · rw [e, h]
    exact ⟨fun h => by omega, fun h => by omega, fun k h1 h2 h3 => by obtain rfl : k = 4 := h3.symm; rfl, fun h => by omega⟩
  · rw [e, if_neg h0, if_neg h1, if_neg h2, if_neg h3, if_neg h4]
    exact ⟨fun h => by omega, fun h => by omega, fun k h1 h2 h3 => by omega, fun _ => rfl⟩
theorem ints5 (j : Nat) (h : j < 5) : ([1, 2, 3, 4, 5] : List Int).getD j 0 = (j : Int) + 1 := by
  rcases (by omega : j = 0 ∨ j = 1 ∨ j = 2 ∨ j = 3 ∨ j = 4) with rfl | rfl | rfl | rfl | rfl <;> rfl
set_option maxHeartbeats 2000000 in
theorem atom_does {w0 : World} {g : Nat} {s : W8} {d n : Nat} {p : List W8 → List Nd → Rs} (hf : ∀ ws ns, Fine (p ws ns) ws ns) (D : d < 32 → Does 49 w0 g s (d + 1) p n) {w : World} {v : Value} {ts : List (Nat × W8)} {ns : List Nd} (hn : ts.length < n + 1) (x : RdX w0 w g s d v ts ns) :
    Calls Tryz.prog 113 #[Ptr g] w fun e w' => Told w0 g s d v w (atomP d p (wds ts) ns) e w' := by
  obtain ⟨hg, c0, c1, c2, c3, c4, hz⟩ := five_at x.m.blk
  have HX := hideIt x
  by_cases hb : hdT ts = [40]
  · have e0 : atomP d p (wds ts) ns = brP d p (wds ts) ns := by unfold atomP; rw [hd_wds, if_pos hb]
    have hl := hd_tail (ws := wds ts) (by rw [hd_wds, hb]; decide)
    rw [← wds_tail, wds_length, wds_length] at hl
    have HB := hideIt (br_does hf D (by omega : ts.tail.length < n) x)
    rw [← e0] at HB
    have h1 : ((S (hdT ts)).toList == [40]) = true := by rw [eq_L, hb]; rfl
    clear x hn D hz hf e0 hl hb
    go_enter Tryz.func113, Tryz.ntmps113
    go_wp2_with fail
    refine HB.out.mono ?_
    intro e w1 ht
    rcases hq : atomP d p (wds ts) ns with k | h
    · rw [hq] at ht
      obtain ⟨rfl, b⟩ := ht
      exact ⟨rfl, by rw [hq]; exact ⟨rfl, b⟩⟩
    · rw [hq] at ht
      obtain ⟨v1, ts1, e1, rfl, y, k⟩ := ht
      have HY := hideIt (And.intro e1 (And.intro y k))
      clear e1 y k
      go_wp2_with fail
      go_ret
      rw [hq]
      exact ⟨v1, ts1, HY.out.1, rfl, HY.out.2.1, HY.out.2.2⟩
  have h40 : ((S (hdT ts)).toList == [40]) = false := by rw [eq_L]; simpa using hb
  by_cases ht : hdT ts = wTrue
  · have e0 : atomP d p (wds ts) ns = putN ns ⟨0, 0, 0, 0⟩ (wds ts).tail := by unfold atomP; rw [hd_wds, if_neg hb, if_pos ht]
    have hl := hd_tail (ws := wds ts) (by rw [hd_wds, ht]; decide)
    rw [← wds_tail, wds_length, wds_length] at hl
    have HW := hideIt e0
    have HT := hideIt ht
    have HA := hideIt (fun W (y : RdX w0 W g s d v ts.tail ns) => add_any y ⟨0, 0, 0, 0⟩ (by have := x.few; omega))
    unfold Nd.val at HA
    clear x hn D hz hf e0 hl hb ht
    go_enter Tryz.func113, Tryz.ntmps113
    go_wp2_with fail
    refine (takes_yes HX.out (rfl : wordOf 0 = wTrue) HT.out).mono ?_
    rintro e w1 ⟨rfl, y, b1⟩
    have HY := hideIt (And.intro y b1)
    clear y b1
    go_wp2_with fail
    refine (HA.out _ HY.out.1).mono ?_
    rintro e w2 ⟨v2, rfl, y2, k2⟩
    have HY2 := hideIt (And.intro y2 k2)
    clear y2 k2
    go_wp2_with fail
    go_ret
    rw [HW.out]
    exact ⟨v2, ts.tail, wds_tail ts, rfl, HY2.out.1, (Goes.one HY.out.2).trans HY2.out.2⟩
  have HT := hideIt ht
  rcases hc : chanOf (hdT ts) with _ | c
  · have HW : Hid (atomP d p (wds ts) ns = .error ts.length) := hideIt (by unfold atomP; rw [hd_wds, if_neg hb, if_neg ht, hc, wds_length])
    have HC := hideIt hc
    clear x hn D hz hf hb ht hc
    go_enter Tryz.func113, Tryz.ntmps113
    go_wp2_with fail
    refine (takes_no HX.out (rfl : wordOf 0 = wTrue) HT.out).mono ?_
    rintro e w1 ⟨rfl, a1⟩
    have HA1 := hideIt a1
    clear a1
    go_wp2_with fail
    refine (chan_any (HX.out.after HA1.out)).mono ?_
    rw [HC.out]
    rintro e w2 ⟨rfl, a2⟩
    refine ⟨rfl, ?_⟩
    rw [HW.out]
    exact ⟨rfl, (HA1.out.trans a2).but⟩
  have e0 : atomP d p (wds ts) ns = chP c (wds ts.tail) ns := by unfold atomP; rw [hd_wds, if_neg hb, if_neg ht, hc, wds_tail]
  have HW := hideIt e0
  have HC := hideIt hc
  have hl := hd_tail (ws := wds ts) (by rw [hd_wds]; intro e; rw [e, chanOf_nil] at hc; cases hc)
  rw [← wds_tail, wds_length, wds_length] at hl
  have HL := hideIt hl
  have his := chP_is c (wds ts.tail) ns
  rw [hd_wds] at his
  have HIs := hideIt his
  have HNo := hideIt (atomN_no (hdT ts.tail))
  have HYes := hideIt (atomN_yes (hdT ts.tail))
  obtain ⟨N, hN⟩ : ∃ N, N = atomN (hdT ts.tail) := ⟨_, rfl⟩
  rw [← hN] at HIs HNo HYes
  have HNN := hideIt hN
  clear x hn D hz hf hb ht hc e0 hl his hN
  go_enter Tryz.func113, Tryz.ntmps113
  go_wp2_with fail
  refine (takes_no HX.out (rfl : wordOf 0 = wTrue) HT.out).mono ?_
  rintro e w1 ⟨rfl, a1⟩
  have HA1 := hideIt a1
  clear a1
  go_wp2_with fail
  refine (chan_any (HX.out.after HA1.out)).mono ?_
  rw [HC.out]
  rintro e w2 ⟨rfl, y2, b2⟩
  have HY2 := hideIt (And.intro y2 b2)
  clear y2 b2
  go_wp2_with fail
  obtain ⟨W0, hW0⟩ : ∃ W, W = (w2.alloc (.cells #[.int .i64 0, .int .i64 (c : Int), .int .i64 0, .int .i64 0] 33)).alloc (.cells #[.int .i64 1, .int .i64 2, .int .i64 3, .int .i64 4, .int .i64 5] 3) := ⟨_, rfl⟩
  have aW : After w2 W0 := by rw [hW0]; exact (After.rfl.alloc _).alloc _
  have hbx : W0.heap[w2.heap.size]? = some (.cells #[.int .i64 0, .int .i64 (c : Int), .int .i64 0, .int .i64 0] 33 (0, 0)) := by
    rw [hW0, Below.heap_alloc _ _ _ (by simp)]; exact heap_alloc_new w2 _
  have hlt : W0.heap[w2.heap.size + 1]? = some (.cells #[.int .i64 1, .int .i64 2, .int .i64 3, .int .i64 4, .int .i64 5] 3 (0, 0)) := by
    rw [hW0]
    have := heap_alloc_new (w2.alloc (.cells #[.int .i64 0, .int .i64 (c : Int), .int .i64 0, .int .i64 0] 33)) (.cells #[.int .i64 1, .int .i64 2, .int .i64 3, .int .i64 4, .int .i64 5] 3)
    rw [World.size_alloc] at this; exact this
  have HW0 := hideIt (And.intro aW (And.intro hbx hlt))
  have HGo : Hid (Goes g v w v W0) := hideIt (((Goes.after HA1.out).trans (Goes.one HY2.out.2)).trans (Goes.after aW))
  have HX0 := hideIt (HY2.out.1.after aW)
  have hq1 : w0.heap.size ≤ w2.heap.size ∧ w2.heap.size ≠ g ∧ v.ownBlock ≠ some w2.heap.size := by
    have y := HY2.out.1
    refine ⟨y.aft.size, by have := y.m.lt; omega, fun e => ?_⟩
    have := (y.m.own.lt _ e).2
    omega
  have HQ := hideIt hq1
  have HLt : Hid (w.heap.size ≤ w2.heap.size) := hideIt (by have := HA1.out.size; have := HY2.out.2.size; omega)
  rw [← hW0]
  clear hW0 aW hbx hlt hq1
  obtain ⟨q, hq⟩ : ∃ q, q = w2.heap.size := ⟨_, rfl⟩
  rw [← hq] at HW0 HQ HLt ⊢
  clear hq
  go_loopw [23] (fun i wr => ∃ j : Nat, j ≤ N ∧ i = .int .i64 (j : Int) ∧ After W0 wr) (fun i _ => 5 - (intOf i).toNat)
  case atStart => exact ⟨0, Nat.zero_le _, rfl, After.rfl⟩
  case round =>
    obtain ⟨j, hj, rfl, aw⟩ := hrel
    have HAw := hideIt aw
    have hb1 := (aw.block _ (blk_lt HW0.out.2.1) (fun t => t)).trans HW0.out.2.1
    have hb2 := (aw.block _ (blk_lt HW0.out.2.2) (fun t => t)).trans HW0.out.2.2
    have HB1 := hideIt hb1
    have hlq : q + 1 < wr.heap.size := blk_lt hb2
    by_cases hjN : j < N
    · have hN5 : N ≤ 5 := by rcases HYes.out with h | h | h | h | h | h <;> omega
      have h5 : j < 5 := by omega
      have i1 : (j : Int) < 5 := by omega
      have hcell : wr.cell? ⟨q + 1, j, none⟩ = some (.int .i64 ((j : Int) + 1)) := by
        rcases (by omega : j = 0 ∨ j = 1 ∨ j = 2 ∨ j = 3 ∨ j = 4) with rfl | rfl | rfl | rfl | rfl <;> exact blk_cell hb2 rfl
      have HJ := hideIt hjN
      have H5 := hideIt h5
      clear aw hb1 hb2 hj hjN h5 hN5
      go_wp2_with fail
      refine (takes_no (HX0.out.after HAw.out) rfl (HNo.out j HJ.out H5.out)).mono ?_
      rintro e w3 ⟨rfl, a3⟩
      have HA3 := hideIt a3
      clear a3
      go_wp2_with fail
      go_roundw
      case rel => exact ⟨j + 1, HJ.out, by go_num, HAw.out.trans HA3.out⟩
      case measure => simp [intOf]; omega
    · obtain rfl : j = N := by omega
      rcases HYes.out with ⟨rfl, hm⟩ | ⟨rfl, hm⟩ | ⟨rfl, hm⟩ | ⟨rfl, hm⟩ | ⟨rfl, hm⟩ | ⟨rfl, _⟩
      · have hcell : wr.cell? ⟨q + 1, 0, none⟩ = some (.int .i64 1) := blk_cell hb2 rfl
        have HM := hideIt hm
        have HI := hideIt (HIs.out.1 rfl)
        clear aw hb1 hb2 hj hjN hm
        go_wp2_with fail
        refine (takes_yes (HX0.out.after HAw.out) (rfl : wordOf 1 = _) HM.out).mono ?_
        rintro e w3 ⟨rfl, y3, b3⟩
        have hb3 := (b3.block q (blk_lt HB1.out) HQ.out.2.1).trans HB1.out
        have k3 := blk_soft hb3 0
        have k0 := blk_cell hb3 (i := 0) rfl
        have hl3 := blk_lt hb3
        have HY3 := hideIt (And.intro y3 (And.intro b3 hb3))
        clear y3 b3 hb3
        go_wp2_with fail
        refine (number_has 1 _).mono ?_
        rintro e w4 ⟨rfl, rfl⟩
        obtain ⟨w4, hw4⟩ : ∃ W, W = w3.setCell ⟨q, 0, none⟩ (.int .i64 1) := ⟨_, rfl⟩
        have b4 : But (One q) w3 w4 := by rw [hw4]; exact but_one _ _ _ _
        have hb4 : w4.heap[q]? = some (.cells #[.int .i64 1, .int .i64 (c : Int), .int .i64 0, .int .i64 0] 33 (0, 0)) := by rw [hw4, blk_put HY3.out.2.2]; rfl
        have HY4 := hideIt (And.intro (HY3.out.1.far b4 HQ.out.2.1 HQ.out.2.2 HQ.out.1) (And.intro b4 hb4))
        have HG4 : Hid (Goes g v w v w4) := hideIt ((HGo.out.trans ((Goes.after HAw.out).trans (Goes.one HY3.out.2.1))).far b4 HLt.out)
        rw [← hw4]
        clear hw4 b4 hb4 k3 k0
        rcases hnm : numOf (hdT ts.tail.tail) with _ | z
        · have HW2 : Hid (atomP d p (wds ts) ns = .error ts.tail.tail.length) := hideIt (by rw [HW.out, HI.out]; unfold cmpP; rw [← wds_tail, hd_wds, hnm, wds_length])
          have HNm := hideIt hnm
          clear hnm
          go_wp2_with fail
          refine (num_any HY4.out.1).mono ?_
          rw [HNm.out]
          rintro e w5 ⟨rfl, a5⟩
          refine ⟨rfl, ?_⟩
          rw [HW2.out]
          exact ⟨rfl, (HG4.out.trans (Goes.after a5)).but⟩
        · have HW2 : Hid (atomP d p (wds ts) ns = putN ns ⟨1, c, 0, z⟩ (wds ts.tail.tail.tail)) := hideIt (by rw [HW.out, HI.out]; unfold cmpP; rw [← wds_tail, hd_wds, hnm, ← wds_tail])
          have HNm := hideIt hnm
          clear hnm
          go_wp2_with fail
          refine (num_any HY4.out.1).mono ?_
          rw [HNm.out]
          rintro e w5 ⟨rfl, y5, b5⟩
          have hb5 := (b5.block q (blk_lt HY4.out.2.2) HQ.out.2.1).trans HY4.out.2.2
          have m3 := blk_soft hb5 3
          have m0 := blk_cell hb5 (i := 3) rfl
          have m00 := blk_cell hb5 (i := 0) rfl
          have m01 := blk_cell hb5 (i := 1) rfl
          have m02 := blk_cell hb5 (i := 2) rfl
          have hl5 := blk_lt hb5
          have HY5 := hideIt (And.intro y5 (And.intro b5 hb5))
          clear y5 b5 hb5
          obtain ⟨w6, hw6⟩ : ∃ W, W = w5.setCell ⟨q, 3, none⟩ (.int .i64 z) := ⟨_, rfl⟩
          have b6 : But (One q) w5 w6 := by rw [hw6]; exact but_one _ _ _ _
          have hb6 : w6.heap[q]? = some (.cells #[.int .i64 1, .int .i64 (c : Int), .int .i64 0, .int .i64 z] 33 (0, 0)) := by rw [hw6, blk_put HY5.out.2.2]; rfl
          have HY6 := hideIt (HY5.out.1.far b6 HQ.out.2.1 HQ.out.2.2 HQ.out.1)
          have HG6 : Hid (Goes g v w v w6) := hideIt ((HG4.out.trans (Goes.one HY5.out.2.1)).far b6 HLt.out)
          have r0 := blk_cell hb6 (i := 0) rfl
          have r1 := blk_cell hb6 (i := 1) rfl
          have r2 := blk_cell hb6 (i := 2) rfl
          have r3 := blk_cell hb6 (i := 3) rfl
          have hl6 := blk_lt hb6
          have HAd := hideIt (add_any HY6.out ⟨1, c, 0, z⟩ (by have h1 := HX.out.few; have h2 := HL.out; simp at h2 ⊢; omega))
          unfold Nd.val at HAd
          clear b6 hb6
          go_wp2_with fail
          rw [← hw6]
          clear hw6
          refine HAd.out.mono ?_
          rintro e w7 ⟨v7, rfl, y7, k7⟩
          have HY7 := hideIt (And.intro y7 k7)
          clear y7 k7
          go_wp2_with fail
          go_ret
          rw [HW2.out]
          exact ⟨v7, ts.tail.tail.tail, rfl, rfl, HY7.out.1, HG6.out.trans HY7.out.2⟩
      · have hcell : wr.cell? ⟨q + 1, 1, none⟩ = some (.int .i64 2) := blk_cell hb2 rfl
        have HM := hideIt hm
        have HI := hideIt (HIs.out.2.1 rfl)
        clear aw hb1 hb2 hj hjN hm
        go_wp2_with fail
        refine (takes_yes (HX0.out.after HAw.out) (rfl : wordOf 2 = _) HM.out).mono ?_
        rintro e w3 ⟨rfl, y3, b3⟩
        have hb3 := (b3.block q (blk_lt HB1.out) HQ.out.2.1).trans HB1.out
        have k3 := blk_soft hb3 0
        have k0 := blk_cell hb3 (i := 0) rfl
        have hl3 := blk_lt hb3
        have HY3 := hideIt (And.intro y3 (And.intro b3 hb3))
        clear y3 b3 hb3
        go_wp2_with fail
        refine (number_has 2 _).mono ?_
        rintro e w4 ⟨rfl, rfl⟩
        obtain ⟨w4, hw4⟩ : ∃ W, W = w3.setCell ⟨q, 0, none⟩ (.int .i64 2) := ⟨_, rfl⟩
        have b4 : But (One q) w3 w4 := by rw [hw4]; exact but_one _ _ _ _
        have hb4 : w4.heap[q]? = some (.cells #[.int .i64 2, .int .i64 (c : Int), .int .i64 0, .int .i64 0] 33 (0, 0)) := by rw [hw4, blk_put HY3.out.2.2]; rfl
        have HY4 := hideIt (And.intro (HY3.out.1.far b4 HQ.out.2.1 HQ.out.2.2 HQ.out.1) (And.intro b4 hb4))
        have HG4 : Hid (Goes g v w v w4) := hideIt ((HGo.out.trans ((Goes.after HAw.out).trans (Goes.one HY3.out.2.1))).far b4 HLt.out)
        rw [← hw4]
        clear hw4 b4 hb4 k3 k0
        rcases hnm : numOf (hdT ts.tail.tail) with _ | z
        · have HW2 : Hid (atomP d p (wds ts) ns = .error ts.tail.tail.length) := hideIt (by rw [HW.out, HI.out]; unfold cmpP; rw [← wds_tail, hd_wds, hnm, wds_length])
          have HNm := hideIt hnm
          clear hnm
          go_wp2_with fail
          refine (num_any HY4.out.1).mono ?_
          rw [HNm.out]
          rintro e w5 ⟨rfl, a5⟩
          refine ⟨rfl, ?_⟩
          rw [HW2.out]
          exact ⟨rfl, (HG4.out.trans (Goes.after a5)).but⟩
        · have HW2 : Hid (atomP d p (wds ts) ns = putN ns ⟨2, c, 0, z⟩ (wds ts.tail.tail.tail)) := hideIt (by rw [HW.out, HI.out]; unfold cmpP; rw [← wds_tail, hd_wds, hnm, ← wds_tail])
          have HNm := hideIt hnm
          clear hnm
          go_wp2_with fail
          refine (num_any HY4.out.1).mono ?_
          rw [HNm.out]
          rintro e w5 ⟨rfl, y5, b5⟩
          have hb5 := (b5.block q (blk_lt HY4.out.2.2) HQ.out.2.1).trans HY4.out.2.2
          have m3 := blk_soft hb5 3
          have m0 := blk_cell hb5 (i := 3) rfl
          have m00 := blk_cell hb5 (i := 0) rfl
          have m01 := blk_cell hb5 (i := 1) rfl
          have m02 := blk_cell hb5 (i := 2) rfl
          have hl5 := blk_lt hb5
          have HY5 := hideIt (And.intro y5 (And.intro b5 hb5))
          clear y5 b5 hb5
          obtain ⟨w6, hw6⟩ : ∃ W, W = w5.setCell ⟨q, 3, none⟩ (.int .i64 z) := ⟨_, rfl⟩
          have b6 : But (One q) w5 w6 := by rw [hw6]; exact but_one _ _ _ _
          have hb6 : w6.heap[q]? = some (.cells #[.int .i64 2, .int .i64 (c : Int), .int .i64 0, .int .i64 z] 33 (0, 0)) := by rw [hw6, blk_put HY5.out.2.2]; rfl
          have HY6 := hideIt (HY5.out.1.far b6 HQ.out.2.1 HQ.out.2.2 HQ.out.1)
          have HG6 : Hid (Goes g v w v w6) := hideIt ((HG4.out.trans (Goes.one HY5.out.2.1)).far b6 HLt.out)
          have r0 := blk_cell hb6 (i := 0) rfl
          have r1 := blk_cell hb6 (i := 1) rfl
          have r2 := blk_cell hb6 (i := 2) rfl
          have r3 := blk_cell hb6 (i := 3) rfl
          have hl6 := blk_lt hb6
          have HAd := hideIt (add_any HY6.out ⟨2, c, 0, z⟩ (by have h1 := HX.out.few; have h2 := HL.out; simp at h2 ⊢; omega))
          unfold Nd.val at HAd
          clear b6 hb6
          go_wp2_with fail
          rw [← hw6]
          clear hw6
          refine HAd.out.mono ?_
          rintro e w7 ⟨v7, rfl, y7, k7⟩
          have HY7 := hideIt (And.intro y7 k7)
          clear y7 k7
          go_wp2_with fail
          go_ret
          rw [HW2.out]
          exact ⟨v7, ts.tail.tail.tail, rfl, rfl, HY7.out.1, HG6.out.trans HY7.out.2⟩
      · have hcell : wr.cell? ⟨q + 1, 2, none⟩ = some (.int .i64 3) := blk_cell hb2 rfl
        have HM := hideIt hm
        have HI := hideIt (HIs.out.2.2.1 2 (by omega) (by omega) rfl)
        clear aw hb1 hb2 hj hjN hm
        go_wp2_with fail
        refine (takes_yes (HX0.out.after HAw.out) (rfl : wordOf 3 = _) HM.out).mono ?_
        rintro e w3 ⟨rfl, y3, b3⟩
        have hb3 := (b3.block q (blk_lt HB1.out) HQ.out.2.1).trans HB1.out
        have k3 := blk_soft hb3 0
        have k0 := blk_cell hb3 (i := 0) rfl
        have hl3 := blk_lt hb3
        have HY3 := hideIt (And.intro y3 (And.intro b3 hb3))
        clear y3 b3 hb3
        go_wp2_with fail
        refine (number_has 3 _).mono ?_
        rintro e w4 ⟨rfl, rfl⟩
        obtain ⟨w4, hw4⟩ : ∃ W, W = w3.setCell ⟨q, 0, none⟩ (.int .i64 3) := ⟨_, rfl⟩
        have b4 : But (One q) w3 w4 := by rw [hw4]; exact but_one _ _ _ _
        have hb4 : w4.heap[q]? = some (.cells #[.int .i64 3, .int .i64 (c : Int), .int .i64 0, .int .i64 0] 33 (0, 0)) := by rw [hw4, blk_put HY3.out.2.2]; rfl
        have HY4 := hideIt (And.intro (HY3.out.1.far b4 HQ.out.2.1 HQ.out.2.2 HQ.out.1) (And.intro b4 hb4))
        have HG4 : Hid (Goes g v w v w4) := hideIt ((HGo.out.trans ((Goes.after HAw.out).trans (Goes.one HY3.out.2.1))).far b4 HLt.out)
        rw [← hw4]
        have HW2 : Hid (atomP d p (wds ts) ns = putN ns ⟨3, c, 0, 0⟩ (wds ts.tail.tail)) := hideIt (by rw [HW.out, HI.out, ← wds_tail]; rfl)
        have r0 := blk_cell hb4 (i := 0) rfl
        have r1 := blk_cell hb4 (i := 1) rfl
        have r2 := blk_cell hb4 (i := 2) rfl
        have r3 := blk_cell hb4 (i := 3) rfl
        have hl4 := blk_lt hb4
        have HAd := hideIt (add_any HY4.out.1 ⟨3, c, 0, 0⟩ (by have h1 := HX.out.few; have h2 := HL.out; simp at h2 ⊢; omega))
        unfold Nd.val at HAd
        clear hw4 b4 hb4 k3 k0
        go_wp2_with fail
        refine HAd.out.mono ?_
        rintro e w7 ⟨v7, rfl, y7, k7⟩
        have HY7 := hideIt (And.intro y7 k7)
        clear y7 k7
        go_wp2_with fail
        go_ret
        rw [HW2.out]
        exact ⟨v7, ts.tail.tail, rfl, rfl, HY7.out.1, HG4.out.trans HY7.out.2⟩
      · have hcell : wr.cell? ⟨q + 1, 3, none⟩ = some (.int .i64 4) := blk_cell hb2 rfl
        have HM := hideIt hm
        have HI := hideIt (HIs.out.2.2.1 3 (by omega) (by omega) rfl)
        clear aw hb1 hb2 hj hjN hm
        go_wp2_with fail
        refine (takes_yes (HX0.out.after HAw.out) (rfl : wordOf 4 = _) HM.out).mono ?_
        rintro e w3 ⟨rfl, y3, b3⟩
        have hb3 := (b3.block q (blk_lt HB1.out) HQ.out.2.1).trans HB1.out
        have k3 := blk_soft hb3 0
        have k0 := blk_cell hb3 (i := 0) rfl
        have hl3 := blk_lt hb3
        have HY3 := hideIt (And.intro y3 (And.intro b3 hb3))
        clear y3 b3 hb3
        go_wp2_with fail
        refine (number_has 4 _).mono ?_
        rintro e w4 ⟨rfl, rfl⟩
        obtain ⟨w4, hw4⟩ : ∃ W, W = w3.setCell ⟨q, 0, none⟩ (.int .i64 4) := ⟨_, rfl⟩
        have b4 : But (One q) w3 w4 := by rw [hw4]; exact but_one _ _ _ _
        have hb4 : w4.heap[q]? = some (.cells #[.int .i64 4, .int .i64 (c : Int), .int .i64 0, .int .i64 0] 33 (0, 0)) := by rw [hw4, blk_put HY3.out.2.2]; rfl
        have HY4 := hideIt (And.intro (HY3.out.1.far b4 HQ.out.2.1 HQ.out.2.2 HQ.out.1) (And.intro b4 hb4))
        have HG4 : Hid (Goes g v w v w4) := hideIt ((HGo.out.trans ((Goes.after HAw.out).trans (Goes.one HY3.out.2.1))).far b4 HLt.out)
        rw [← hw4]
        have HW2 : Hid (atomP d p (wds ts) ns = putN ns ⟨4, c, 0, 0⟩ (wds ts.tail.tail)) := hideIt (by rw [HW.out, HI.out, ← wds_tail]; rfl)
        have r0 := blk_cell hb4 (i := 0) rfl
        have r1 := blk_cell hb4 (i := 1) rfl
        have r2 := blk_cell hb4 (i := 2) rfl
        have r3 := blk_cell hb4 (i := 3) rfl
        have hl4 := blk_lt hb4
        have HAd := hideIt (add_any HY4.out.1 ⟨4, c, 0, 0⟩ (by have h1 := HX.out.few; have h2 := HL.out; simp at h2 ⊢; omega))
        unfold Nd.val at HAd
        clear hw4 b4 hb4 k3 k0
        go_wp2_with fail
        refine HAd.out.mono ?_
        rintro e w7 ⟨v7, rfl, y7, k7⟩
        have HY7 := hideIt (And.intro y7 k7)
        clear y7 k7
        go_wp2_with fail
        go_ret
        rw [HW2.out]
        exact ⟨v7, ts.tail.tail, rfl, rfl, HY7.out.1, HG4.out.trans HY7.out.2⟩
      · have hcell : wr.cell? ⟨q + 1, 4, none⟩ = some (.int .i64 5) := blk_cell hb2 rfl
        have HM := hideIt hm
        have HI := hideIt (HIs.out.2.2.1 4 (by omega) (by omega) rfl)
        clear aw hb1 hb2 hj hjN hm
        go_wp2_with fail
        refine (takes_yes (HX0.out.after HAw.out) (rfl : wordOf 5 = _) HM.out).mono ?_
        rintro e w3 ⟨rfl, y3, b3⟩
        have hb3 := (b3.block q (blk_lt HB1.out) HQ.out.2.1).trans HB1.out
        have k3 := blk_soft hb3 0
        have k0 := blk_cell hb3 (i := 0) rfl
        have hl3 := blk_lt hb3
        have HY3 := hideIt (And.intro y3 (And.intro b3 hb3))
        clear y3 b3 hb3
        go_wp2_with fail
        refine (number_has 5 _).mono ?_
        rintro e w4 ⟨rfl, rfl⟩
        obtain ⟨w4, hw4⟩ : ∃ W, W = w3.setCell ⟨q, 0, none⟩ (.int .i64 5) := ⟨_, rfl⟩
        have b4 : But (One q) w3 w4 := by rw [hw4]; exact but_one _ _ _ _
        have hb4 : w4.heap[q]? = some (.cells #[.int .i64 5, .int .i64 (c : Int), .int .i64 0, .int .i64 0] 33 (0, 0)) := by rw [hw4, blk_put HY3.out.2.2]; rfl
        have HY4 := hideIt (And.intro (HY3.out.1.far b4 HQ.out.2.1 HQ.out.2.2 HQ.out.1) (And.intro b4 hb4))
        have HG4 : Hid (Goes g v w v w4) := hideIt ((HGo.out.trans ((Goes.after HAw.out).trans (Goes.one HY3.out.2.1))).far b4 HLt.out)
        rw [← hw4]
        have HW2 : Hid (atomP d p (wds ts) ns = putN ns ⟨5, c, 0, 0⟩ (wds ts.tail.tail)) := hideIt (by rw [HW.out, HI.out, ← wds_tail]; rfl)
        have r0 := blk_cell hb4 (i := 0) rfl
        have r1 := blk_cell hb4 (i := 1) rfl
        have r2 := blk_cell hb4 (i := 2) rfl
        have r3 := blk_cell hb4 (i := 3) rfl
        have hl4 := blk_lt hb4
        have HAd := hideIt (add_any HY4.out.1 ⟨5, c, 0, 0⟩ (by have h1 := HX.out.few; have h2 := HL.out; simp at h2 ⊢; omega))
        unfold Nd.val at HAd
        clear hw4 b4 hb4 k3 k0
        go_wp2_with fail
        refine HAd.out.mono ?_
        rintro e w7 ⟨v7, rfl, y7, k7⟩
        have HY7 := hideIt (And.intro y7 k7)
        clear y7 k7
        go_wp2_with fail
        go_ret
        rw [HW2.out]
        exact ⟨v7, ts.tail.tail, rfl, rfl, HY7.out.1, HG4.out.trans HY7.out.2⟩
      · have i1 : ¬ ((5 : Nat) : Int) < 5 := by omega
        have HW2 : Hid (atomP d p (wds ts) ns = .error ts.tail.length) := hideIt (by rw [HW.out, HIs.out.2.2.2 rfl, wds_length])
        obtain ⟨-, p0, p1, p2, p3, p4, -⟩ := five_at (HX0.out.after HAw.out).m.blk
        clear aw hb1 hb2 hj hjN
        go_wp2_with fail
        refine ⟨rfl, ?_⟩
        rw [HW2.out]
        exact ⟨by rw [HX0.out.cur.plc]; rfl, HGo.out.but.trans HAw.out.but⟩
end Go.Proofs.YtlfcihanhfabmaaGreatDoor
