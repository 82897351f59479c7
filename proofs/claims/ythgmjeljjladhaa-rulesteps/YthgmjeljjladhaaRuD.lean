/-
  The document's machine: New, Words, Step.
-/
import Derived.Test.YthgmjeljjladhaaLawHolds17
import Derived.Test.YthgmjeljjladhaaFoX15
namespace Go.Proofs.Ythgmjeljjladhaa
open Go.RowKit
set_option maxRecDepth 8000
/-- The document's machine, from block lo on, with these rows so far. -/
structure Rm (w : World) (lo p : Nat) (L : List Nd) (C : List Ch) (X : List Tr) : Prop where
  ex : ∃ vL vC vT, w.heap[p]? = some (.cells #[vL, vC, vT] 69 (0, 0)) ∧ ORow ndE 38 w lo vL L ∧ ORow chE 42 w lo vC C ∧ ORow trE 43 w lo vT X
  pin : lo ≤ p
  rows : ∀ x ∈ X, x.n = C.length ∧ x.l.length = x.n ∧ ORow rdE 48 w lo (.slice x.a x.l.length x.d) x.l
  ck : chk L (C.length : Int) = 0
theorem Rm.but {S : Nat → Prop} {w w' : World} {lo p : Nat} {L : List Nd} {C : List Ch} {X : List Tr} (r : Rm w lo p L C X) (b : But S w w') (hn : ∀ k, lo ≤ k → k < w.heap.size → ¬ S k) : Rm w' lo p L C X := by
  obtain ⟨⟨vL, vC, vT, h0, h1, h2, h3⟩, hp, hr, hc⟩ := r
  exact ⟨⟨vL, vC, vT, (b.block p (blk_lt h0) (hn p hp (blk_lt h0))).trans h0, own_but h1 b (fun k hk => hn k (h1.lt k hk).1 (h1.lt k hk).2), own_but h2 b (fun k hk => hn k (h2.lt k hk).1 (h2.lt k hk).2), own_but h3 b (fun k hk => hn k (h3.lt k hk).1 (h3.lt k hk).2)⟩, hp,
    fun x hx => ⟨(hr x hx).1, (hr x hx).2.1, own_but (hr x hx).2.2 b (fun k hk => hn k ((hr x hx).2.2.lt k hk).1 ((hr x hx).2.2.lt k hk).2)⟩, hc⟩
theorem Rm.after {w w' : World} {lo p : Nat} {L : List Nd} {C : List Ch} {X : List Tr} (r : Rm w lo p L C X) (b : After w w') : Rm w' lo p L C X := r.but b (fun _ _ _ t => t)
/-- A list of readings that is none of its own is written to. -/
theorem Rm.keep {w w' : World} {lo p g : Nat} {L : List Nd} {C : List Ch} {X : List Tr} {cs : Array Value} (r : Rm w lo p L C X) (b : But (One g) w w') (hg : w.heap[g]? = some (.cells cs 48 (0, 0))) (hx : ∀ x ∈ X, (Value.slice x.a x.l.length x.d).ownBlock ≠ some g) : Rm w' lo p L C X := by
  obtain ⟨⟨vL, vC, vT, h0, h1, h2, h3⟩, hp, hr, hc⟩ := r
  refine ⟨⟨vL, vC, vT, (b.block p (blk_lt h0) (fun e => ?_)).trans h0, own_but h1 b (fun k hk e => own_farT h1 (by decide) hg (by rw [hk, show k = g from e])), own_but h2 b (fun k hk e => own_farT h2 (by decide) hg (by rw [hk, show k = g from e])), own_but h3 b (fun k hk e => own_farT h3 (by decide) hg (by rw [hk, show k = g from e]))⟩, hp, fun x hx' => ⟨(hr x hx').1, (hr x hx').2.1, own_but (hr x hx').2.2 b (fun k hk e => hx x hx' (by rw [hk, show k = g from e]))⟩, hc⟩
  have e : p = g := e
  rw [e, hg] at h0
  simp at h0
theorem Rm.pos {w : World} {lo p : Nat} {L : List Nd} {C : List Ch} {X : List Tr} (r : Rm w lo p L C X) : 0 < L.length := (chk_zero r.ck).2.2.2.1
theorem fieldR (g : Nat) (w : World) (i : Nat) (hi : i < 3) : (Instr.fieldAt 69 (Ptr g) i).run Try.prog w = .ok (.pointer (some ⟨g, i, none⟩)) w := by
  unfold Ptr
  rcases (by omega : i = 0 ∨ i = 1 ∨ i = 2) with rfl | rfl | rfl
  all_goals simp [go_sem]
theorem loadNs {w : World} {g i : Nat} {a : Option Addr} {n c : Nat} (h0 : w.cell? ⟨g, i, none⟩ = some (.slice a n c)) : (Instr.loadAt 22 (.pointer (some ⟨g, i, none⟩))).run Try.prog w = .ok (.slice a n c) w := by
  simp [go_sem, h0]
theorem refNew_no {L : List Nd} {C : List Ch} (w : World) (al : Option Addr) (n cl : Nat) (h1 : NRow w al n L) (ac : Option Addr) (nc cc : Nat) (h2 : CRow w ac nc C) (hc : chk L (C.length : Int) ≠ 0) :
    Calls Try.prog 11 #[.slice al n cl, .slice ac nc cc] w fun e w' => e = .returned (.tuple #[.pointer none, .int .i64 (chk L (C.length : Int))]) ∧ After w w' := by
  have H0 := hideIt (refCheck_any L w al n cl h1 (C.length : Int))
  rw [h2.1] at H0 hc ⊢
  have hc' : (chk L (nc : Int) != 0) = true := by simp [hc]
  clear h1 h2 hc
  generalize chk L (nc : Int) = k at *
  go_enter Try.func11, Try.ntmps11
  go_wp2_with (go_at_call 27; refine H0.out.mono ?_; rintro e w1 ⟨rfl, a1⟩)
  go_ret2
  exact ⟨rfl, a1⟩
set_option maxHeartbeats 1000000 in
theorem refNew_ok {L : List Nd} {C : List Ch} (w : World) (al : Option Addr) (cl : Nat) (h1 : NRow w al L.length L) (ha : al = none → L.length = 0 ∧ cl = 0) (ac : Option Addr) (cc : Nat) (h2 : CRow w ac C.length C) (hca : ac = none → C.length = 0 ∧ cc = 0) (hc : chk L (C.length : Int) = 0) :
    Calls Try.prog 11 #[.slice al L.length cl, .slice ac C.length cc] w fun e w' => ∃ p, e = .returned (.tuple #[Ptr p, .int .i64 0]) ∧ Rm w' w.heap.size p L C [] ∧ After w w' := by
  obtain ⟨c1, c2, c3, c4, c5⟩ := chk_zero hc
  have H0 := hideIt (refCheck_any L w al L.length cl h1 (C.length : Int))
  rw [hc] at H0
  have HH := hideIt (And.intro h1 (And.intro ha (And.intro h2 (And.intro hca hc))))
  have hL : L.length ≤ 32 := c1
  have hC : C.length ≤ 8 := by omega
  clear h1 ha h2 hca hc c1 c2 c3 c4 c5
  go_enter Try.func11, Try.ntmps11
  go_wp2_with fail
  refine H0.out.mono ?_
  rintro e w1 ⟨rfl, a1⟩
  have A1 := hideIt a1
  clear a1 H0
  obtain ⟨W2, hW2⟩ : ∃ W2, W2 = w1.alloc (.cells #[.slice none 0 0, .slice none 0 0, .slice none 0 0] 69) := ⟨_, rfl⟩
  have HW := hideIt hW2
  have a2 : After w1 W2 := by rw [hW2]; exact After.rfl.alloc _
  have b2 : W2.heap[w1.heap.size]? = some (.cells #[.slice none 0 0, .slice none 0 0, .slice none 0 0] 69 (0, 0)) := by rw [hW2]; exact heap_alloc_new w1 _
  have A2 := hideIt (And.intro (A1.out.trans a2) b2)
  have HR2 := hideIt (HH.out.1.after (A1.out.trans a2))
  obtain ⟨P, hP⟩ : ∃ P, P = w1.heap.size := ⟨_, rfl⟩
  have HPl := hideIt (show w.heap.size ≤ P by rw [hP]; exact A1.out.size)
  rw [← hP] at b2 A2
  have k0 := blk_cell b2 (i := 0) rfl
  have k1 := blk_lt b2
  clear a2 b2 hW2
  go_upto_region 5 with fail
  rw [← HW.out, ← hP]
  clear hP HW
  have hn1 : 0 + L.length ≤ maxLen := by unfold maxLen; omega
  have hn2 : 0 + C.length ≤ maxLen := by unfold maxLen; omega
  have HW2s := hideIt A2.out.1.size
  go_upto_region 6 with (at_builtin; refine app_row (E := ndE) rfl (.tmp 21) (.tmp 22) 22 38 Try.underlying22 Try.infoNode rfl (by decide) rfl w.heap.size _ [] rfl (orow_nil ndE _ _ _) al L.length cl L rfl HR2.out HH.out.2.1 hn1 (by simp; omega) HW2s.out ?_; intro v3 w3 h3 b3; rw [List.nil_append] at h3; obtain ⟨aL, cL, rfl, j1, j2, j3⟩ := ORow.row h3; clear j1 j2 j3; have H3 := hideIt (And.intro h3 (show After W2 w3 from But.mono b3 (fun i hi h => by cases h))); clear h3 b3; have k3 := (H3.out.2.cell (blk_lt A2.out.2) 0).trans (blk_cell A2.out.2 (i := 0) rfl); have k4 := blk_lt ((H3.out.2.block _ (blk_lt A2.out.2) (fun t => t)).trans A2.out.2); have k5 := blk_soft ((H3.out.2.block _ (blk_lt A2.out.2) (fun t => t)).trans A2.out.2) 0)
  obtain ⟨W4, hW4⟩ : ∃ W4, W4 = w3.setCell ⟨P, 0, none⟩ (.slice aL L.length cL) := ⟨_, rfl⟩
  rw [← hW4]
  have b4 : But (One P) w3 W4 := by rw [hW4]; exact but_one _ _ _ _
  have p4 : W4.heap[P]? = some (.cells #[.slice aL L.length cL, .slice none 0 0, .slice none 0 0] 69 (0, 0)) := by
    rw [hW4]
    exact blk_put ((H3.out.2.block _ (blk_lt A2.out.2) (fun t => t)).trans A2.out.2) 0 _
  have o4 : ORow ndE 38 W4 w.heap.size (.slice aL L.length cL) L := own_but H3.out.1 b4 (fun k hk e => own_farT H3.out.1 (by decide) ((H3.out.2.block _ (blk_lt A2.out.2) (fun t => t)).trans A2.out.2) (by rw [hk, show k = P from e]))
  have a4 : After w W4 := (A2.out.1.trans H3.out.2).then b4 (fun k hk e => by have := HPl.out; have e : k = P := e; omega)
  have HR4 := hideIt (HH.out.2.2.1.after a4)
  have H4 := hideIt (And.intro a4 (And.intro p4 o4))
  have HW4s := hideIt a4.size
  clear hW4 b4 o4 a4 k0 k1 k3 k4 k5
  have k0 := blk_cell p4 (i := 1) rfl
  have k1 := blk_lt p4
  clear p4
  go_upto_region 7 with (at_builtin; refine app_row (E := chE) rfl (.tmp 30) (.tmp 31) 23 42 Try.underlying23 Try.infoChan rfl (by decide) rfl w.heap.size _ [] rfl (orow_nil chE _ _ _) ac C.length cc C rfl HR4.out HH.out.2.2.2.1 hn2 (by simp; omega) HW4s.out ?_; intro v5 w5 h5 b5; rw [List.nil_append] at h5; obtain ⟨aC, cC, rfl, j1, j2, j3⟩ := ORow.row h5; clear j1 j2 j3; have H5 := hideIt (And.intro h5 (show After W4 w5 from But.mono b5 (fun i hi h => by cases h))); clear h5 b5; have k3 := (H5.out.2.cell (blk_lt H4.out.2.1) 1).trans (blk_cell H4.out.2.1 (i := 1) rfl); have k4 := blk_lt ((H5.out.2.block _ (blk_lt H4.out.2.1) (fun t => t)).trans H4.out.2.1); have k5 := blk_soft ((H5.out.2.block _ (blk_lt H4.out.2.1) (fun t => t)).trans H4.out.2.1) 1)
  obtain ⟨W6, hW6⟩ : ∃ W6, W6 = w5.setCell ⟨P, 1, none⟩ (.slice aC C.length cC) := ⟨_, rfl⟩
  rw [← hW6]
  have p5 := (H5.out.2.block _ (blk_lt H4.out.2.1) (fun t => t)).trans H4.out.2.1
  have b6 : But (One P) w5 W6 := by rw [hW6]; exact but_one _ _ _ _
  have p6 : W6.heap[P]? = some (.cells #[.slice aL L.length cL, .slice aC C.length cC, .slice none 0 0] 69 (0, 0)) := by
    rw [hW6]
    exact blk_put p5 1 _
  have o6 : ORow chE 42 W6 w.heap.size (.slice aC C.length cC) C := own_but H5.out.1 b6 (fun k hk e => own_farT H5.out.1 (by decide) p5 (by rw [hk, show k = P from e]))
  have o5 := own_after H4.out.2.2 H5.out.2
  have o7 : ORow ndE 38 W6 w.heap.size (.slice aL L.length cL) L := own_but o5 b6 (fun k hk e => own_farT o5 (by decide) p5 (by rw [hk, show k = P from e]))
  have a6 : After w W6 := (H4.out.1.trans H5.out.2).then b6 (fun k hk e => by have := HPl.out; have e : k = P := e; omega)
  have H6 : Hid (Rm W6 w.heap.size P L C [] ∧ After w W6) := hideIt ⟨⟨⟨_, _, _, p6, o7, o6, orow_nil trE _ _ _⟩, HPl.out, (fun x hx => by cases hx), HH.out.2.2.2.2⟩, a6⟩
  clear hW6 b6 p6 p5 o6 o5 o7 a6 k0 k1 k3 k4 k5
  go_wp2_with fail
  go_ret2
  exact ⟨P, rfl, H6.out.1, H6.out.2⟩
theorem refWords_nil (w : World) : Calls Try.prog 13 #[.pointer none] w fun e w' => e = .returned (.int .i64 0) ∧ w' = w := by
  go_enter Try.func13, Try.ntmps13
  go_wp2
  go_ret
  exact ⟨rfl, rfl⟩
theorem refWords_any {w : World} {lo p : Nat} {L : List Nd} {C : List Ch} {X : List Tr} (r : Rm w lo p L C X) : Calls Try.prog 13 #[Ptr p] w fun e w' => e = .returned (.int .i64 (memA L).1) ∧ After w w' := by
  obtain ⟨⟨vL, vC, vT, h0, h1, h2, h3⟩, hp, hr, hc⟩ := r
  obtain ⟨a, c, rfl, hg, -, -⟩ := ORow.row h1
  have HM := hideIt (refMemory_any L w a L.length c hg)
  have k0 := blk_cell h0 (i := 0) rfl
  have k1 := blk_lt h0
  clear h0 h1 h2 h3 hp hr hc hg
  generalize (memA L).1 = r at *
  generalize (memA L).2 = s at *
  go_enter Try.func13, Try.ntmps13
  go_wp2_with (go_at_call 29; refine HM.out.mono ?_; rintro e w' ⟨rfl, h⟩; have H2 := hideIt h; clear h)
  go_ret
  exact ⟨rfl, H2.out⟩
theorem refStep_nil (w : World) (a : Option Addr) (n c : Nat) : Calls Try.prog 16 #[.pointer none, .slice a n c] w fun e w' => e = .returned (.tuple #[.bool false, .int .i64 1]) ∧ w' = w := by
  go_enter Try.func16, Try.ntmps16
  go_wp2
  go_ret2
  exact ⟨rfl, rfl⟩
theorem refStep_arg {w : World} {lo p : Nat} {L : List Nd} {C : List Ch} {X : List Tr} (r : Rm w lo p L C X) {a : Option Addr} {n c : Nat} (hn : n ≠ C.length) : Calls Try.prog 16 #[Ptr p, .slice a n c] w fun e w' => e = .returned (.tuple #[.bool false, .int .i64 2]) ∧ w' = w := by
  have hL := r.pos
  obtain ⟨⟨vL, vC, vT, h0, h1, h2, h3⟩, hp, hr, hc⟩ := r
  obtain ⟨aL, cL, rfl, -, -, -⟩ := ORow.row h1
  obtain ⟨aC, cC, rfl, -, -, -⟩ := ORow.row h2
  have k0 := blk_cell h0 (i := 0) rfl
  have k2 := blk_cell h0 (i := 1) rfl
  have k1 := blk_lt h0
  have i0 : ((L.length : Int) == 0) = false := by rw [beq_eq_false_iff_ne]; omega
  have i1 : ((n : Int) != (C.length : Int)) = true := by simp; omega
  clear h0 h1 h2 h3 hp hr hc
  go_enter Try.func16, Try.ntmps16
  go_wp2
  go_ret2
  exact ⟨rfl, rfl⟩
/-- Lists of readings that lie there stay. -/
def KeepsR (w w' : World) : Prop := ∀ (g : Nat) (cs : Array Value), w.heap[g]? = some (Obj.cells cs 48 (0, 0)) → w'.heap[g]? = some (Obj.cells cs 48 (0, 0))
theorem Try.infoDs17 : (Try.prog.info? 43).map (fun i => (i.zero, i.size, i.bytes)) = some (some (.slice none 0 0), trE.k, 24) := by kernel_rfl
set_option maxHeartbeats 1000000 in
theorem refStep_ok {w : World} {lo p : Nat} {L : List Nd} {C : List Ch} {X : List Tr} (r : Rm w lo p L C X) (hX : X.length ≤ 900) {ar : Option Addr} {cr : Nat} {R : List Rd} (hr : DRow w ar C.length R) (hra : ar = none → C.length = 0 ∧ cr = 0) (hlo : lo ≤ w.heap.size) :
    Calls Try.prog 16 #[Ptr p, .slice ar C.length cr] w fun e w' => e = .returned (.tuple #[.bool (val L C (rdsOf X ++ [R]) (L.length - 1) X.length), .int .i64 0]) ∧ (∃ x : Tr, x.l = R ∧ (∀ k, (Value.slice x.a x.l.length x.d).ownBlock = some k → w.heap.size ≤ k) ∧ Rm w' lo p L C (X ++ [x])) ∧ But (From lo) w w' ∧ KeepsR w w' := by
  have hL := r.pos
  obtain ⟨c1, c2, c3, c4, c5⟩ := chk_zero r.ck
  have HRm := hideIt r
  obtain ⟨⟨vL, vC, vT, h0, h1, h2, h3⟩, hp, hrs, hck⟩ := r
  obtain ⟨aL, cL, rfl, gL, -, -⟩ := ORow.row h1
  obtain ⟨aC, cC, rfl, gC, -, -⟩ := ORow.row h2
  obtain ⟨aT, cT, rfl, gT, -, -⟩ := ORow.row h3
  have k0 := blk_cell h0 (i := 0) rfl
  have k2 := blk_cell h0 (i := 1) rfl
  have k1 := blk_lt h0
  have i0 : ((L.length : Int) == 0) = false := by rw [beq_eq_false_iff_ne]; omega
  have HH := hideIt (And.intro h0 (And.intro h1 (And.intro h2 (And.intro h3 (And.intro hp (And.intro hrs hck))))))
  have HR := hideIt (And.intro hr (And.intro hra hlo))
  have hC8 : C.length ≤ 8 := by omega
  have HRl : Hid (R.length = C.length) := hideIt hr.1
  have hn1 : 0 + C.length ≤ maxLen := by unfold maxLen; omega
  clear h0 h1 h2 h3 hp hrs hck gL gC gT hr hra c1 c2 c3 c4 c5
  go_enter Try.func16, Try.ntmps16
  go_upto_region 7 with (at_builtin; refine app_row (E := rdE) rfl (.tmp 25) (.tmp 26) 43 48 Try.underlying43 Try.infoReading rfl (by decide) rfl w.heap.size _ [] rfl (orow_nil rdE _ _ _) ar C.length cr R rfl HR.out.1 HR.out.2.1 hn1 (by simp; omega) (Nat.le_refl _) ?_; intro v3 w3 h3 b3; rw [List.nil_append] at h3; obtain ⟨aR, cR, rfl, j1, j2, j3⟩ := ORow.row h3; clear j1 j2 j3; have H3 := hideIt (And.intro h3 (show After w w3 from But.mono b3 (fun i hi h => by cases h))); clear h3 b3)
  have p3 := (H3.out.2.block p (blk_lt HH.out.1) (fun t => t)).trans HH.out.1
  obtain ⟨W4, hW4⟩ : ∃ W4, W4 = w3.alloc (.cells #[.slice aR R.length cR] 43) := ⟨_, rfl⟩
  have a4 : After w3 W4 := by rw [hW4]; exact After.rfl.alloc _
  have g4 : GRow trE W4 (some ⟨w3.heap.size, 0, none⟩) 1 [⟨aR, R.length, cR, R⟩] := by rw [hW4]; exact lit_row (heap_alloc_new w3 _) rfl rfl
  have p4 := (a4.block p (blk_lt p3) (fun t => t)).trans p3
  have o4 := own_after HH.out.2.2.2.1 (H3.out.2.trans a4)
  have H4 := hideIt (And.intro hW4 (And.intro a4 (And.intro g4 (And.intro p4 o4))))
  have k3 := blk_cell p3 (i := 2) rfl
  have k4 := blk_lt p3
  have HX9 := hideIt hX
  have HS4 : Hid (lo ≤ W4.heap.size) := hideIt (by have := HR.out.2.2; have := (H3.out.2.trans a4).size; omega)
  clear hW4 a4 g4 p4 o4 p3 k0 k1 k2 hX hlo
  obtain ⟨nx, hnx⟩ : ∃ nx, nx = X.length := ⟨_, rfl⟩
  have HNX := hideIt hnx
  have HO4 : Hid (ORow trE 43 W4 lo (.slice aT nx cT) X) := hideIt (by rw [hnx]; exact H4.out.2.2.2.2)
  rw [← hnx] at k3
  clear hnx
  go_upto_region 8 with (first
    | (at_builtin; (rw [← H4.out.1]; refine app_row (E := trE) rfl (.tmp 32) (.tmp 34) 24 43 Try.underlying24 Try.infoDs17 rfl (by decide) rfl lo _ X rfl HO4.out (some ⟨w3.heap.size, 0, none⟩) 1 1 [⟨aR, R.length, cR, R⟩] rfl H4.out.2.2.1 (fun h => by cases h) (by have := HX9.out; unfold maxLen; omega) (by have := HX9.out; omega) HS4.out ?_; intro v5 w5 h5 b5; obtain ⟨aX, cX, e5, j1, j2, j3⟩ := ORow.row h5; clear j1 j2 j3; obtain ⟨NX, hNX⟩ : ∃ NX, NX = (X ++ [(⟨aR, R.length, cR, R⟩ : Tr)]).length := ⟨_, rfl⟩; rw [← hNX] at e5; subst e5; have H5 := hideIt (And.intro h5 (And.intro b5 hNX)); have p5 := (b5.block p (blk_lt H4.out.2.2.2.1) (own_farT HO4.out (by decide) H4.out.2.2.2.1)).trans H4.out.2.2.2.1; have k5 := blk_cell p5 (i := 2) rfl; have k6 := blk_soft p5 2; have k7 := blk_lt p5; have P5 := hideIt p5; clear h5 b5 hNX p5)))
  obtain ⟨x, hx⟩ : ∃ x : Tr, x = ⟨aR, R.length, cR, R⟩ := ⟨_, rfl⟩
  obtain ⟨W6, hW6⟩ : ∃ W6, W6 = w5.setCell ⟨p, 2, none⟩ (.slice aX NX cX) := ⟨_, rfl⟩
  rw [← hW6]
  have b6 : But (One p) w5 W6 := by rw [hW6]; exact but_one _ _ _ _
  have p6 : W6.heap[p]? = some (.cells #[.slice aL L.length cL, .slice aC C.length cC, .slice aX NX cX] 69 (0, 0)) := by rw [hW6]; exact blk_put P5.out 2 _
  obtain ⟨q0, q1, q2, q3, q4, q5, q6⟩ := HH.out
  have aw4 : After w W4 := H3.out.2.trans H4.out.2.1
  have bT : But (fun k => (Value.slice aT nx cT).ownBlock = some k ∨ k = p) W4 W6 := (H5.out.2.1.mono (fun _ _ h => .inl h)).then b6 (fun _ _ h => .inr h)
  have far : ∀ {α : Type} {E : Enc α} {t : TypeId} {v : Value} {xs : List α}, ORow E t W4 lo v xs → t ≠ 43 → t ≠ 69 → ORow E t W6 lo v xs := fun {α E t v xs} ho t1 t2 => own_but ho bT (fun k hk e => by
    rcases e with e | e
    · obtain ⟨cs, hcs⟩ := own_blk HO4.out e
      exact own_farT ho (Ne.symm t1) hcs hk
    · exact own_farT ho (Ne.symm t2) H4.out.2.2.2.1 (by rw [hk, e]))
  have oL := far (own_after q1 aw4) (by decide) (by decide)
  have oC := far (own_after q2 aw4) (by decide) (by decide)
  have oR : ORow rdE 48 W4 lo (.slice aR R.length cR) R := own_base (own_after H3.out.1 H4.out.2.1) (fun k hk => by have := (H3.out.1.lt k hk).1; have := HR.out.2.2; omega)
  have oR6 := far oR (by decide) (by decide)
  have oX : ORow trE 43 W6 lo (.slice aX NX cX) (X ++ [x]) := by
    rw [hx]
    exact own_but H5.out.1 b6 (fun k hk e => own_farT H5.out.1 (by decide) P5.out (by rw [hk, show k = p from e]))
  have hNXl : NX = X.length + 1 := by rw [H5.out.2.2]; simp
  have RM : Rm W6 lo p L C (X ++ [x]) := ⟨⟨_, _, _, p6, oL, oC, oX⟩, q4, fun y hy => by
    rcases List.mem_append.1 hy with h | h
    · obtain ⟨z1, z2, z3⟩ := q5 y h
      exact ⟨z1, z2, far (own_after z3 aw4) (by decide) (by decide)⟩
    · simp only [List.mem_cons, List.not_mem_nil, or_false] at h
      rw [h, hx]
      exact ⟨HRl.out, rfl, oR6⟩, q6⟩
  have bW : But (From lo) w W6 := aw4.but.then bT (fun k hk e => by
    rcases e with e | e
    · exact (HO4.out.lt k e).1
    · rw [e]; exact q4)
  have HKp : Hid (KeepsR w W6) := hideIt (fun g cs hg => by
    have hg4 := (aw4.block g (blk_lt hg) (fun t => t)).trans hg
    refine (bT.block g (blk_lt hg4) (fun e => ?_)).trans hg4
    rcases e with e | e
    · exact own_farT HO4.out (by decide) hg4 e
    · have h9 := H4.out.2.2.2.1
      rw [← e, hg4] at h9
      simp at h9)
  have HXn : Hid (∀ k, (Value.slice x.a x.l.length x.d).ownBlock = some k → w.heap.size ≤ k) := hideIt (fun k hk => by rw [hx] at hk; exact (H3.out.1.lt k hk).1)
  have HF := hideIt (And.intro RM (And.intro bW (show x.l = R by rw [hx])))
  have gL := (ORow.row oL)
  obtain ⟨aL', cL', eL, gL, -, -⟩ := ORow.row oL
  cases eL
  obtain ⟨aC', cC', eC, gC, -, -⟩ := ORow.row oC
  cases eC
  obtain ⟨aX', cX', eX, gX, -, -⟩ := ORow.row oX
  have hcap : (X ++ [x]).length ≤ cX' := by
    have h9 := oX.2
    rw [eX] at h9
    rcases h9 with ⟨e9, e8⟩ | ⟨g9, cap9, cur9, e9, _, _, hnc, _⟩
    · omega
    · cases e9
      exact hnc
  have hlenX : (X ++ [x]).length = NX := by rw [hNXl]; simp
  rw [hlenX] at eX
  cases eX
  have hTR : TRow W6 aX NX (X ++ [x]) := ⟨by rw [← hlenX]; exact gX, fun y hy => by
    obtain ⟨z1, z2, z3⟩ := RM.rows y hy
    obtain ⟨ay, cy, ey, gy, ny, -⟩ := ORow.row z3
    cases ey
    refine ⟨by rw [← z2]; exact gy, fun h => ?_⟩
    have := ny h
    omega⟩
  obtain ⟨N, hN⟩ : ∃ N : Nat, N = X.length := ⟨_, rfl⟩
  have hNN : (NX : Int) - 1 = (N : Int) := by omega
  have hok := hld_ok (L := L) (C := C) (T := rdsOf (X ++ [x])) q6 (fun l hl => by
    obtain ⟨y, hy, rfl⟩ := List.mem_map.1 hl
    obtain ⟨z1, z2, z3⟩ := RM.rows y hy
    rw [z2, z1]) (j := N) (by rw [rdsOf_length]; omega)
  have hrd : rdsOf (X ++ [x]) = rdsOf X ++ [R] := by rw [hx]; unfold rdsOf; rw [List.map_append]; rfl
  have HT : Hid (∀ V, After W6 V → Calls Try.prog 31 #[.slice aL L.length cL, .slice aC C.length cC, .slice aX NX cX, .int .i64 (N : Int)] V fun e w' => e = .returned (.tuple #[.bool (val L C (rdsOf X ++ [R]) (L.length - 1) X.length), .int .i64 0]) ∧ After V w') := hideIt (fun V hV => by
    have h9 := refHolds_any (L := L) (C := C) (X := X ++ [x]) V aL cL aC cC aX cX (gL.after hV) (gC.after hV) (by rw [hlenX]; exact hTR.after hV) (by have := HX9.out; rw [hlenX]; omega) hcap (N : Int)
    rw [hok, hrd, hlenX, hN] at h9
    rw [hN]
    exact h9)
  have HP : Hid (∀ V, After W6 V → V.heap[p]? = some (.cells #[.slice aL L.length cL, .slice aC C.length cC, .slice aX NX cX] 69 (0, 0))) := hideIt (fun V hV => (hV.block p (blk_lt p6) (fun t => t)).trans p6)
  have hNb : N ≤ 900 := by have := HX9.out; omega
  clear hW6 b6 p6 q0 q1 q2 q3 q4 q5 q6 aw4 bT far oL oC oR oR6 oX RM bW gL gC gX hTR hok hrd hcap hlenX k3 k4 k5 k6 k7 hN hx
  obtain ⟨RES, hRES⟩ : ∃ RES, RES = val L C (rdsOf X ++ [R]) (L.length - 1) X.length := ⟨_, rfl⟩
  rw [← hRES] at HT
  have HRES := hideIt hRES
  clear hRES
  refine region_slots (by kernel_rfl) [38, 39, 40, 41, 42, 43, 44, 45, 46, 47, 48, 49, 50, 51, 52, 53, 54, 55, 56, 57, 58, 4, 5] [isV (Ptr p), isV (Ptr p), isV (.pointer (some ⟨p, 0, none⟩)), isV (.slice aL L.length cL), isV (Ptr p), isV (Ptr p), isV (.pointer (some ⟨p, 1, none⟩)), isV (.slice aC C.length cC), isV (Ptr p), isV (Ptr p), isV (.pointer (some ⟨p, 2, none⟩)), isV (.slice aX NX cX), isV (Ptr p), isV (Ptr p), isV (.pointer (some ⟨p, 2, none⟩)), isV (.slice aX NX cX), isV (.int .i64 (NX : Int)), isV (.int .i64 (N : Int)), isV (.tuple #[.bool RES, .int .i64 0]), isV (.bool RES), isV (.int .i64 0), isV (.bool RES), isV (.int .i64 0)] 23 rfl rfl (stable_all (st_cons (isV_st _) (st_cons (isV_st _) (st_cons (isV_st _) (st_cons (isV_st _) (st_cons (isV_st _) (st_cons (isV_st _) (st_cons (isV_st _) (st_cons (isV_st _) (st_cons (isV_st _) (st_cons (isV_st _) (st_cons (isV_st _) (st_cons (isV_st _) (st_cons (isV_st _) (st_cons (isV_st _) (st_cons (isV_st _) (st_cons (isV_st _) (st_cons (isV_st _) (st_cons (isV_st _) (st_cons (isV_st _) (st_cons (isV_st _) (st_cons (isV_st _) (st_cons (isV_st _) (st_cons (isV_st _) (st_nil))))))))))))))))))))))))) rfl rfl ?_ ?_
  · exact ⟨⟨rfl, rfl, (.inl rfl), fun a W9 K hd hb aw hk => wp_move (.inl rfl) (show a.eval (.tmp 0) = Ptr p from hb 0 rfl) (hk _ _ rfl After.rfl)⟩,
      ⟨rfl, rfl, (.inl rfl), fun a W9 K hd hb aw hk => wp_nil rfl (hd 0 rfl) (hk _ _ rfl After.rfl)⟩,
      ⟨rfl, rfl, (.inl rfl), fun a W9 K hd hb aw hk => wp_field rfl (hd 1 rfl) (fieldR _ _ 0 (by decide)) (hk _ _ rfl After.rfl)⟩,
      ⟨rfl, rfl, (.inl rfl), fun a W9 K hd hb aw hk => wp_load rfl (hd 2 rfl) (loadNs (blk_cell (HP.out W9 aw) (i := 0) rfl)) (hk _ _ rfl After.rfl)⟩,
      ⟨rfl, rfl, (.inl rfl), fun a W9 K hd hb aw hk => wp_move (.inl rfl) (show a.eval (.tmp 0) = Ptr p from hb 0 rfl) (hk _ _ rfl After.rfl)⟩,
      ⟨rfl, rfl, (.inl rfl), fun a W9 K hd hb aw hk => wp_nil rfl (hd 4 rfl) (hk _ _ rfl After.rfl)⟩,
      ⟨rfl, rfl, (.inl rfl), fun a W9 K hd hb aw hk => wp_field rfl (hd 5 rfl) (fieldR _ _ 1 (by decide)) (hk _ _ rfl After.rfl)⟩,
      ⟨rfl, rfl, (.inl rfl), fun a W9 K hd hb aw hk => wp_load rfl (hd 6 rfl) (loadCs (blk_cell (HP.out W9 aw) (i := 1) rfl)) (hk _ _ rfl After.rfl)⟩,
      ⟨rfl, rfl, (.inl rfl), fun a W9 K hd hb aw hk => wp_move (.inl rfl) (show a.eval (.tmp 0) = Ptr p from hb 0 rfl) (hk _ _ rfl After.rfl)⟩,
      ⟨rfl, rfl, (.inl rfl), fun a W9 K hd hb aw hk => wp_nil rfl (hd 8 rfl) (hk _ _ rfl After.rfl)⟩,
      ⟨rfl, rfl, (.inl rfl), fun a W9 K hd hb aw hk => wp_field rfl (hd 9 rfl) (fieldR _ _ 2 (by decide)) (hk _ _ rfl After.rfl)⟩,
      ⟨rfl, rfl, (.inl rfl), fun a W9 K hd hb aw hk => wp_load rfl (hd 10 rfl) (loadT (blk_cell (HP.out W9 aw) (i := 2) rfl)) (hk _ _ rfl After.rfl)⟩,
      ⟨rfl, rfl, (.inl rfl), fun a W9 K hd hb aw hk => wp_move (.inl rfl) (show a.eval (.tmp 0) = Ptr p from hb 0 rfl) (hk _ _ rfl After.rfl)⟩,
      ⟨rfl, rfl, (.inl rfl), fun a W9 K hd hb aw hk => wp_nil rfl (hd 12 rfl) (hk _ _ rfl After.rfl)⟩,
      ⟨rfl, rfl, (.inl rfl), fun a W9 K hd hb aw hk => wp_field rfl (hd 13 rfl) (fieldR _ _ 2 (by decide)) (hk _ _ rfl After.rfl)⟩,
      ⟨rfl, rfl, (.inl rfl), fun a W9 K hd hb aw hk => wp_load rfl (hd 14 rfl) (loadT (blk_cell (HP.out W9 aw) (i := 2) rfl)) (hk _ _ rfl After.rfl)⟩,
      ⟨rfl, rfl, (.inl rfl), fun a W9 K hd hb aw hk => wp_len rfl (hd 15 rfl) (lenT _ _ _ _ _) (hk _ _ rfl After.rfl)⟩,
      ⟨rfl, rfl, (.inl rfl), fun a W9 K hd hb aw hk => wp_bin rfl (hd 16 rfl) rfl (subI (by omega) (by omega) (by omega) _ _ _) (hk _ _ rfl After.rfl)⟩,
      ⟨rfl, rfl, (.inl rfl), fun a W9 K hd hb aw hk => wp_func4 rfl (enter_of Try.func31 (by kernel_rfl) (by kernel_rfl)) (hd 3 rfl) (hd 7 rfl) (hd 11 rfl) (hd 17 rfl) ((HT.out W9 aw).mono (fun e w1 h => ⟨_, h.1, hk _ _ rfl h.2⟩))⟩,
      ⟨rfl, rfl, (.inl rfl), fun a W9 K hd hb aw hk => wp_extract rfl (hd 18 rfl) (extr0 _ _ _) (hk _ _ rfl After.rfl)⟩,
      ⟨rfl, rfl, (.inl rfl), fun a W9 K hd hb aw hk => wp_extract rfl (hd 18 rfl) (extr1 _ _ _) (hk _ _ rfl After.rfl)⟩,
      ⟨rfl, rfl, (.inl rfl), fun a W9 K hd hb aw hk => wp_move (.inr rfl) (hd 19 rfl) (hk _ _ rfl After.rfl)⟩,
      ⟨rfl, rfl, (.inl rfl), fun a W9 K hd hb aw hk => wp_move (.inr rfl) (hd 20 rfl) (hk _ _ rfl After.rfl)⟩,
      trivial⟩
  intro x9 w9 hx9 aw9
  have t0 : x9 0 = Ptr p := hx9 0 (Nat.le_of_ble_eq_true rfl)
  have t1 : x9 1 = Ptr p := hx9 1 (Nat.le_of_ble_eq_true rfl)
  have t2 : x9 2 = .pointer (some ⟨p, 0, none⟩) := hx9 2 (Nat.le_of_ble_eq_true rfl)
  have t3 : x9 3 = .slice aL L.length cL := hx9 3 (Nat.le_of_ble_eq_true rfl)
  have t4 : x9 4 = Ptr p := hx9 4 (Nat.le_of_ble_eq_true rfl)
  have t5 : x9 5 = Ptr p := hx9 5 (Nat.le_of_ble_eq_true rfl)
  have t6 : x9 6 = .pointer (some ⟨p, 1, none⟩) := hx9 6 (Nat.le_of_ble_eq_true rfl)
  have t7 : x9 7 = .slice aC C.length cC := hx9 7 (Nat.le_of_ble_eq_true rfl)
  have t8 : x9 8 = Ptr p := hx9 8 (Nat.le_of_ble_eq_true rfl)
  have t9 : x9 9 = Ptr p := hx9 9 (Nat.le_of_ble_eq_true rfl)
  have t10 : x9 10 = .pointer (some ⟨p, 2, none⟩) := hx9 10 (Nat.le_of_ble_eq_true rfl)
  have t11 : x9 11 = .slice aX NX cX := hx9 11 (Nat.le_of_ble_eq_true rfl)
  have t12 : x9 12 = Ptr p := hx9 12 (Nat.le_of_ble_eq_true rfl)
  have t13 : x9 13 = Ptr p := hx9 13 (Nat.le_of_ble_eq_true rfl)
  have t14 : x9 14 = .pointer (some ⟨p, 2, none⟩) := hx9 14 (Nat.le_of_ble_eq_true rfl)
  have t15 : x9 15 = .slice aX NX cX := hx9 15 (Nat.le_of_ble_eq_true rfl)
  have t16 : x9 16 = .int .i64 (NX : Int) := hx9 16 (Nat.le_of_ble_eq_true rfl)
  have t17 : x9 17 = .int .i64 (N : Int) := hx9 17 (Nat.le_of_ble_eq_true rfl)
  have t18 : x9 18 = .tuple #[.bool RES, .int .i64 0] := hx9 18 (Nat.le_of_ble_eq_true rfl)
  have t19 : x9 19 = .bool RES := hx9 19 (Nat.le_of_ble_eq_true rfl)
  have t20 : x9 20 = .int .i64 0 := hx9 20 (Nat.le_of_ble_eq_true rfl)
  have t21 : x9 21 = .bool RES := hx9 21 (Nat.le_of_ble_eq_true rfl)
  have t22 : x9 22 = .int .i64 0 := hx9 22 (Nat.le_of_ble_eq_true rfl)
  simp only [sets, List.getD_cons_succ, List.getD_cons_zero, List.set_cons_succ, List.set_cons_zero, t0, t1, t2, t3, t4, t5, t6, t7, t8, t9, t10, t11, t12, t13, t14, t15, t16, t17, t18, t19, t20, t21, t22]
  clear hx9 t0 t1 t2 t3 t4 t5 t6 t7 t8 t9 t10 t11 t12 t13 t14 t15 t16 t17 t18 t19 t20 t21 t22
  clear x9
  go_wp2_with fail
  go_ret2
  exact ⟨ret_be HRES.out, ⟨x, HF.out.2.2, HXn.out, HF.out.1.after aw9⟩, HF.out.2.1.then aw9 (fun _ _ t => t.elim), fun g cs hg => (aw9.block g (blk_lt (HKp.out g cs hg)) (fun t => t)).trans (HKp.out g cs hg)⟩
end Go.Proofs.Ythgmjeljjladhaa
