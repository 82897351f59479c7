/-
  PanelApart: a state changes nothing but its own condition's signal, Top and Tone.
-/
import Derived.Test.YtaiagijepnaalaaLawSignals19
import Derived.Test.YtaiagijepnaalaaAlT
namespace Go.Proofs.Ytaiagijepnaalaa
open Go.RowKit
set_option maxRecDepth 8000
/-- A state is written over in a row of states. -/
theorem GRow.put4 {w : World} {g off n : Nat} {xs : List As} (h : GRow asE w (some ⟨g, off, none⟩) n xs) {i : Nat} (hi : i < n) (x : As) :
    GRow asE ((((w.setCell ⟨g, off + i * 4, none⟩ (.int .i64 x.ph)).setCell ⟨g, off + i * 4 + 1, none⟩ (.int .i64 x.pr)).setCell ⟨g, off + i * 4 + 2, none⟩ (.int .i64 x.si)).setCell ⟨g, off + i * 4 + 3, none⟩ (.int .i64 x.pa)) (some ⟨g, off, none⟩) n (xs.set i x) := by
  show GRow asE (w.setCells g (off + i * 4) (asE.enc x)) (some ⟨g, off, none⟩) n (xs.set i x)
  have h0 : ∀ j, j < (asE.enc x).length → (w.cell? ⟨g, off + i * 4 + j, none⟩).isSome = true := by
    intro j hj
    obtain ⟨b, o, y, e, _, _, hc⟩ := h.2 i hi
    cases e
    have hy : (asE.enc y)[j]? = some ((asE.enc y)[j]'(by rw [asE.len]; exact hj)) := List.getElem?_eq_getElem _
    have : w.cell? ⟨g, off + i * 4 + j, none⟩ = _ := hc j _ hy
    rw [this]
    rfl
  refine ⟨by rw [List.length_set]; exact h.1, fun j hj => ?_⟩
  obtain ⟨b, o, y, e, hb, hy, hc⟩ := h.2 j hj
  cases e
  have hx := h.1
  by_cases hji : i = j
  · subst hji
    have hin : ∀ k v, (asE.enc x)[k]? = some v → (w.setCells g (off + i * 4) (asE.enc x)).cell? ⟨g, off + i * asE.k + k, none⟩ = some v := by
      intro k v hv
      have hk : k < (asE.enc x).length := (List.getElem?_eq_some_iff.1 hv).1
      have := World.cell?_setCells_in g (asE.enc x) (off + i * 4) w h0 k hk
      rw [show asE.k = 4 from rfl, this, ← hv, List.getElem?_eq_getElem hk]
    exact ⟨g, off, x, rfl, cell_lt (hin 0 _ rfl), by rw [List.getElem?_set, if_pos rfl, if_pos (by omega)], hin⟩
  · have hout : ∀ k v, (asE.enc y)[k]? = some v → (w.setCells g (off + i * 4) (asE.enc x)).cell? ⟨g, off + j * asE.k + k, none⟩ = some v := by
      intro k v hv
      have hk : k < (asE.enc y).length := (List.getElem?_eq_some_iff.1 hv).1
      rw [asE.len] at hk
      rw [World.cell?_setCells_out g (asE.enc x) (off + i * 4) w _ (fun _ _ => by
        show off + j * 4 + k < off + i * 4 ∨ off + i * 4 + 4 ≤ off + j * 4 + k
        have : k < 4 := hk
        omega)]
      exact hc k v hv
    exact ⟨g, off, y, rfl, cell_lt (hout 0 _ rfl), by rw [List.getElem?_set_ne hji]; exact hy, hout⟩
theorem neE (x y : Operand) (n : Int) (w : World) : (do eqGuard .neq 30 x y (.int .i64 n) (.int .i64 n); binOp .neq 30 (.int .i64 n) (.int .i64 n) : Sem Value).run Try.prog w = .ok (.bool false) w := by
  simp [go_sem, eqGuard]
theorem ofV_set (l : List As) (fl : Bool) (bs : List Bool) {i : Nat} {x : As} (hl : l.length ≤ 26) (hx : l[i]? = some x) : (ofV l fl bs).sg[i]? = some (sgOf x) := by
  have hi : i < l.length := (List.getElem?_eq_some_iff.1 hx).1
  show (sgAt l l.length)[i]? = _
  rw [sgAt_at l l.length hl i (by omega), if_pos hi, List.getD_some hx]
set_option maxHeartbeats 2000000 in
theorem law_apart (w : World) (a : Option Addr) (n c : Nat) (l : List As) (at_ : Int) (s : As) (hl : In19 w a n c l) (h1 : -9223372036854775808 ≤ at_) (h2 : at_ ≤ 9223372036854775807) :
    Calls Try.prog 7 #[.slice a n c, .int .i64 at_, s.v] w fun e w' => e = .returned (.bool true) ∧ After w w' := by
  obtain ⟨w0, h0⟩ : ∃ w0, w0 = w.alloc (.cells #[.int .i64 s.ph, .int .i64 s.pr, .int .i64 s.si, .int .i64 s.pa] 35) := ⟨_, rfl⟩
  have hb0 : w0.heap[w.heap.size]? = some (.cells #[.int .i64 s.ph, .int .i64 s.pr, .int .i64 s.si, .int .i64 s.pa] 35 (0, 0)) := by rw [h0]; exact heap_alloc_new w _
  have a0 : After w w0 := by rw [h0]; exact After.rfl.alloc _
  have B := hideIt (And.intro hb0 a0)
  have HI := hideIt hl
  have HT := hideIt (take_len hl)
  have HAt := hideIt (And.intro h1 h2)
  have hR := hl.row.take (k := min n 26) (by omega)
  generalize l.take (min n 26) = L at *
  have HR := hideIt hR
  clear hb0 a0 hl h1 h2 hR
  generalize hk : min n 26 = k at *
  have hk26 : k ≤ 26 := by omega
  go_enter Try.func7, Try.ntmps7
  go_wp2_with fail
  rw [← h0]
  clear h0
  refine (works_any w0).mono ?_
  rintro e w1 ⟨rfl, a1⟩
  have A1 := hideIt (And.intro (B.out.2.trans a1) (After.at a1 B.out.1))
  clear a1 B
  go_wp2_with fail
  refine ((HI.out.after A1.out.1).few).mono ?_
  rintro e w2 ⟨rfl, a2⟩
  rw [hk]
  have A2 := hideIt (And.intro (A1.out.1.trans a2) (After.at a2 A1.out.2))
  clear a2 A1
  rcases Nat.eq_zero_or_pos k with hz | hp
  · subst hz
    go_wp2
    go_ret
    exact ⟨rfl, A2.out.1⟩
  · have hkz : ((k : Int) == 0) = false := by simp; omega
    go_wp2_with fail
    refine (bring_any at_ k w2 HAt.out.1 HAt.out.2 hp (by omega)).mono ?_
    rintro e w2' ⟨rfl, rfl⟩
    have hq := broughtTo_lt at_ hp
    generalize broughtTo at_ k = q at *
    clear HAt hkz
    go_upto_region 9 with (at_builtin; refine app_row (E := asE) rfl (.tmp 23) (.tmp 24) 22 35 Try.underlying22 Try.infoState rfl (by decide) rfl w2'.heap.size _ [] rfl (orow_nil asE _ _ _) a k c L rfl (HR.out.after A2.out.1) (fun h => by have := HI.out.nil h; omega) (by unfold maxLen; simp; omega) (by simp; omega) (Nat.le_refl _) ?_; intro v' w3 hown hb1; have HO := hideIt (And.intro hown (show After w2' w3 from But.mono hb1 (fun i hi h => by cases h))); clear hown hb1)
    obtain ⟨a1, c1, ev, r1, -, -⟩ := HO.out.1.row
    have en : ([] ++ L).length = k := by simp; exact HT.out
    have f1 : ∀ j, ∀ g, a1 = some ⟨g, 0, none⟩ → w3.frozen? ⟨g, j, none⟩ = false := by
      intro j g eg
      have ho := HO.out.1
      rw [ev, eg] at ho
      exact ho.frozenAt j
    have f2 : ∀ y, a1 = some y → w2'.heap.size ≤ y.block ∧ y.block < w3.heap.size := by
      intro y ey
      have ho := HO.out.1
      rw [ev, ey] at ho
      exact ho.lt y.block rfl
    have f3 : ∀ y, a1 = some y → ∃ g, y = ⟨g, 0, none⟩ := by
      intro y ey
      rcases HO.out.1.2 with ⟨e, _⟩ | ⟨g, cap, cur, e, _⟩
      · rw [ev, ey] at e; cases e
      · rw [ev, ey] at e; cases e; exact ⟨g, rfl⟩
    rw [en] at ev r1
    rw [List.nil_append] at r1
    subst ev
    obtain ⟨g, off0, x0, ea, hlt0, hx0, d0, d1, d2, d3⟩ := asrow_at r1 hq
    obtain ⟨g1, eg⟩ := f3 _ ea
    cases eg
    subst ea
    have y0 := f1 (0 + q * 4) g rfl
    have y1 := f1 (0 + q * 4 + 1) g rfl
    have y2 := f1 (0 + q * 4 + 2) g rfl
    have y3 := f1 (0 + q * 4 + 3) g rfl
    rw [Nat.zero_add] at d0 d1 d2 d3 y0 y1 y2 y3
    have hg : w2'.heap.size ≤ g := (f2 _ rfl).1
    have hs3 := After.at HO.out.2 A2.out.2
    have z0 := blk_cell (i := 0) (v := .int .i64 s.ph) hs3 rfl
    have z1 := blk_cell (i := 1) (v := .int .i64 s.pr) hs3 rfl
    have z2 := blk_cell (i := 2) (v := .int .i64 s.si) hs3 rfl
    have z3 := blk_cell (i := 3) (v := .int .i64 s.pa) hs3 rfl
    have hgs : w.heap.size < g := by have := blk_lt A2.out.2; omega
    have qk : (q : Int) < (k : Int) := by omega
    have H3 := hideIt (And.intro r1 (And.intro (A2.out.1.trans HO.out.2) hs3))
    clear f1 f2 f3 en r1 hs3 HO A2 hx0 hlt0
    go_upto_region 10 with fail
    generalize hw4 : (((w3.setCell ⟨g, q * 4, none⟩ (.int .i64 s.ph)).setCell ⟨g, q * 4 + 1, none⟩ (.int .i64 s.pr)).setCell ⟨g, q * 4 + 2, none⟩ (.int .i64 s.si)).setCell ⟨g, q * 4 + 3, none⟩ (.int .i64 s.pa) = w4
    have r4 : GRow asE w4 (some ⟨g, 0, none⟩) k (L.set q s) := by
      have := H3.out.1.put4 hq s
      rw [Nat.zero_add, hw4] at this
      exact this
    have b4 : But (One g) w3 w4 := by rw [← hw4]; exact (((but_one _ _ _ _).trans (but_one _ _ _ _)).trans (but_one _ _ _ _)).trans (but_one _ _ _ _)
    have a4 : After w w4 := But.then H3.out.2.1 b4 (fun i hi (t : i = g) => by omega)
    have s4 := (b4.block _ (blk_lt H3.out.2.2) (fun (t : w.heap.size = g) => by omega)).trans H3.out.2.2
    have H4 := hideIt (And.intro r4 (And.intro a4 s4))
    clear hw4 r4 b4 a4 s4 H3 d0 d1 d2 d3 y0 y1 y2 y3 z0 z1 z2 z3
    have kX := ofV_ok L false [true, false]
    have kY := ofV_ok (L.set q s) false [true, false]
    have lL := HT.out
    have lL2 : (L.set q s).length = k := by rw [List.length_set]; exact lL
    have hLq : L[q]? = some (L.getD q As.zero) := get_some L As.zero (by omega)
    have hXq := ofV_set L false [true, false] (by omega) hLq
    have hYq := ofV_set (L.set q s) false [true, false] (i := q) (x := s) (by omega) (by rw [List.getElem?_set, if_pos rfl, if_pos (by omega)])
    have hXY : (ofV (L.set q s) false [true, false]).sg.set q (sgOf (L.getD q As.zero)) = (ofV L false [true, false]).sg := by
      show (sgAt (L.set q s) (L.set q s).length).set q _ = sgAt L L.length
      rw [lL2, lL]
      exact sgAt_apart L s hk26 hq lL
    have fX : (ofV L false [true, false]).lk = [true, false, true, true] := rfl
    have fY : (ofV (L.set q s) false [true, false]).lk = [true, false, true, true] := rfl
    have gY : (ofV (L.set q s) false [true, false]).fl = false := rfl
    have OX := fun V b d e f (h : GRow asE V a k L) (h' : GRow blE V b d [true, false]) (hd : d ≤ 4) => of_yes V a b k e d f false L [true, false] h h' hk26 hd
    have OY := fun V b d e f (h : GRow asE V (some ⟨g, 0, none⟩) k (L.set q s)) (h' : GRow blE V b d [true, false]) (hd : d ≤ 4) => of_yes V (some ⟨g, 0, none⟩) b k e d f false (L.set q s) [true, false] h h' hk26 hd
    have O := hideIt (And.intro OX OY)
    clear OX OY lL lL2
    generalize ofV L false [true, false] = X at *
    generalize ofV (L.set q s) false [true, false] = Y at *
    have F := hideIt (And.intro kX (And.intro kY (And.intro hXq (And.intro hYq (And.intro hXY (And.intro fX (And.intro fY (And.intro gY hLq))))))))
    clear kX kY hXq hYq hXY fX fY gY hLq
    go_wp2_with fail
    have hA5 : After w4 (w4.alloc (.cells #[.bool true, .bool false] 4)) := After.rfl.alloc _
    have hB5 : GRow blE (w4.alloc (.cells #[.bool true, .bool false] 4)) (some ⟨w4.heap.size, 0, none⟩) 2 [true, false] := lit_row (heap_alloc_new w4 _) rfl rfl
    generalize w4.alloc (.cells #[.bool true, .bool false] 4) = w5 at *
    refine (O.out.1 w5 _ 2 c 2 (HR.out.after (H4.out.2.1.trans hA5)) hB5 (by omega)).mono ?_
    rintro e w6 ⟨rfl, a6⟩
    have H6 := hideIt (And.intro (H4.out.1.after (hA5.trans a6)) (And.intro (H4.out.2.1.trans (hA5.trans a6)) (After.at (hA5.trans a6) H4.out.2.2)))
    clear a6 hA5 hB5 H4
    go_upto_region 11 with (first | (show wpList _ _ _ (_ :: _) _ _; refine wl_avec rfl rfl ?_; intro wa va ba sa) | (show wpList _ _ _ (_ :: _) _ _; refine wl_vec _ _ rfl rfl rfl (v := X) rfl Vec.Ok.zero F.out.1 va ?_; intro w7 v7 bs ss) | fail)
    have b7 : After w6 w7 := But.then ba bs (fun i hi (t : i = w6.heap.size) => by omega)
    have H7 := hideIt (And.intro (H6.out.1.after b7) (And.intro (H6.out.2.1.trans b7) (And.intro (After.at b7 H6.out.2.2) v7)))
    clear va ba sa bs ss b7 v7 H6
    generalize w6.heap.size = gx at *
    go_wp2_with fail
    have hA8 : After w7 (w7.alloc (.cells #[.bool true, .bool false] 4)) := After.rfl.alloc _
    have hB8 : GRow blE (w7.alloc (.cells #[.bool true, .bool false] 4)) (some ⟨w7.heap.size, 0, none⟩) 2 [true, false] := lit_row (heap_alloc_new w7 _) rfl rfl
    generalize w7.alloc (.cells #[.bool true, .bool false] 4) = w8 at *
    refine (O.out.2 w8 _ 2 c1 2 (H7.out.1.after hA8) hB8 (by omega)).mono ?_
    rintro e w9 ⟨rfl, a9⟩
    have H9 := hideIt (And.intro (H7.out.2.1.trans (hA8.trans a9)) (And.intro (After.at (hA8.trans a9) H7.out.2.2.1) (H7.out.2.2.2.after (hA8.trans a9))))
    clear a9 hA8 hB8 H7 O
    go_upto_region 12 with (first | (show wpList _ _ _ (_ :: _) _ _; refine wl_avec rfl rfl ?_; intro wa va ba sa) | (show wpList _ _ _ (_ :: _) _ _; refine wl_vec _ _ rfl rfl rfl (v := Y) rfl Vec.Ok.zero F.out.2.1 va ?_; intro wb vb bs ss) | fail)
    have bb : After w9 wb := But.then ba bs (fun i hi (t : i = w9.heap.size) => by omega)
    have hgw : w.heap.size ≤ w9.heap.size := H9.out.1.size
    have hne : gx ≠ w9.heap.size := by have := blk_lt H9.out.2.2; omega
    have H := hideIt (And.intro (H9.out.1.trans bb) (And.intro (After.at bb H9.out.2.1) (And.intro (H9.out.2.2.after bb) vb)))
    clear va ba sa bs ss bb vb H9
    generalize w9.heap.size = gy at *
    generalize X.v = V1
    generalize Y.v = V2
    generalize Value.tuple #[V1, Value.int IntKind.i64 0] = V3
    generalize Value.tuple #[V2, Value.int IntKind.i64 0] = V4
    have q26 : q < 26 := by omega
    obtain ⟨b, off, x, rfl, hlt, hx, c0, c1', c2, c3⟩ := asrow_at (HR.out.after H.out.1) hq
    have ex : L.getD q As.zero = x := List.getD_some hx
    have HX := hideIt ex
    have FX := hideIt (show X.sg[q]? = some (sgOf x) by rw [← ex]; exact F.out.2.2.1)
    have FS := hideIt (show Y.sg.set q (sgOf x) = X.sg by rw [← ex]; exact F.out.2.2.2.2.1)
    have FY := hideIt (show Y.sg[q]? = some (sgOf s) from F.out.2.2.2.1)
    have HC : ∀ V, After wb V → (Instr.loadAt 35 (.pointer (some ⟨b, off + q * 4, none⟩))).run Try.prog V = .ok x.v V ∧ (Instr.loadAt 35 (.pointer (some ⟨w.heap.size, 0, none⟩))).run Try.prog V = .ok s.v V ∧ (Instr.loadAt 25 (.pointer (some ⟨gx, 0 + q * 3, none⟩))).run Try.prog V = .ok (sgOf x).v V ∧ (Instr.loadAt 25 (.pointer (some ⟨gy, 0 + q * 3, none⟩))).run Try.prog V = .ok (sgOf s).v V := by
      intro V av
      have sb := After.at av H.out.2.1
      obtain ⟨p0, p1, p2⟩ := (H.out.2.2.1.after av).cell_sg F.out.1 FX.out
      obtain ⟨r0, r1, r2⟩ := (H.out.2.2.2.after av).cell_sg F.out.2.1 FY.out
      rw [Nat.zero_add]
      exact ⟨loadAs ((After.cell av hlt _).trans c0) ((After.cell av hlt _).trans c1') ((After.cell av hlt _).trans c2) ((After.cell av hlt _).trans c3), loadAs (blk_cell (i := 0) sb rfl) (blk_cell (i := 1) sb rfl) (blk_cell (i := 2) sb rfl) (blk_cell (i := 3) sb rfl), loadSg p0 p1 p2, loadSg r0 r1 r2⟩
    have HC' := hideIt HC
    have S := hideIt (And.intro (fun V => signal_any V x) (fun V => signal_any V s))
    clear HC c0 c1' c2 c3 hlt hx ex
    generalize sgOf x = yx at *
    generalize sgOf s = ys at *
    refine region_phase (by kernel_rfl) (fun i => ([.int .i64 0, .bool false, .bool false, .int .i64 0, .bool false, .bool false, .bool false, .int .i64 q, Ptr gy, .pointer (some ⟨gy, 0 + q * 3, none⟩), ys.v, s.v, ys.v, .bool false, .bool false, .bool false, .int .i64 q, Ptr gx, .pointer (some ⟨gx, 0 + q * 3, none⟩), yx.v, .slice (some ⟨b, off, none⟩) k c, .int .i64 q, .pointer (some ⟨b, off + q * 4, none⟩), x.v, yx.v, .bool false]).getD i undef) 42 26 (fun _ V => After wb V) _ rfl rfl (Nat.le_of_ble_eq_true rfl) (But.drew After.rfl) ?_ rfl rfl 26 rfl ?_
    · exact ⟨ph_move rfl rfl rfl rfl rfl (fun _ _ h => h),
        ph_bin rfl rfl rfl rfl rfl rfl (fun V => neE _ _ 0 V) (fun _ _ h => h),
        ph_move rfl rfl rfl rfl rfl (fun _ _ h => h),
        ph_move rfl rfl rfl rfl rfl (fun _ _ h => h),
        ph_bin rfl rfl rfl rfl rfl rfl (fun V => neE _ _ 0 V) (fun _ _ h => h),
        ph_pick (q := false) rfl rfl rfl rfl rfl rfl rfl (fun _ _ h => h),
        ph_move rfl rfl rfl rfl rfl (fun _ _ h => h),
        ph_move rfl rfl rfl rfl rfl (fun _ _ h => h),
        ph_field rfl rfl rfl rfl rfl (fun V => fieldV0 V _) (fun _ _ h => h),
        ph_index rfl rfl rfl rfl rfl rfl (fun V => indexSg V _ _ q26) (fun _ _ h => h),
        ph_load rfl rfl rfl rfl rfl (fun _ V h => (HC'.out V h).2.2.2) (fun _ _ h => h),
        ph_load rfl rfl rfl rfl rfl (fun _ V h => (HC'.out V h).2.1) (fun _ _ h => h),
        ph_call (vs := [s.v]) rfl rfl rfl rfl (enterP Try.func11 (by kernel_rfl) (by kernel_rfl)) rfl (fun _ V _ _ h => (S.out.2 V).mono (fun e w' q => ⟨q.1, h.trans q.2⟩)),
        ph_bin rfl rfl rfl rfl rfl rfl (fun V => neSg _ _ ys V) (fun _ _ h => h),
        ph_pick (q := false) rfl rfl rfl rfl rfl rfl rfl (fun _ _ h => h),
        ph_move rfl rfl rfl rfl rfl (fun _ _ h => h),
        ph_move rfl rfl rfl rfl rfl (fun _ _ h => h),
        ph_field rfl rfl rfl rfl rfl (fun V => fieldV0 V _) (fun _ _ h => h),
        ph_index rfl rfl rfl rfl rfl rfl (fun V => indexSg V _ _ q26) (fun _ _ h => h),
        ph_load rfl rfl rfl rfl rfl (fun _ V h => (HC'.out V h).2.2.1) (fun _ _ h => h),
        ph_move rfl rfl rfl rfl rfl (fun _ _ h => h),
        ph_move rfl rfl rfl rfl rfl (fun _ _ h => h),
        ph_index rfl rfl rfl rfl rfl rfl (fun V => indexAs V _ _ hq) (fun _ _ h => h),
        ph_load rfl rfl rfl rfl rfl (fun _ V h => (HC'.out V h).1) (fun _ _ h => h),
        ph_call (vs := [x.v]) rfl rfl rfl rfl (enterP Try.func11 (by kernel_rfl) (by kernel_rfl)) rfl (fun _ V _ _ h => (S.out.1 V).mono (fun e w' q => ⟨q.1, h.trans q.2⟩)),
        ph_bin rfl rfl rfl rfl rfl rfl (fun V => neSg _ _ yx V) (fun _ _ h => h),
        trivial⟩
    intro wc Ls hL hc K' hK'
    simp only [puts, List.getD_cons_succ, List.getD_cons_zero, List.setIfInBounds_toArray, List.set_cons_succ, List.set_cons_zero, Nat.reduceAdd]
    refine pw_pick (q := false) (v := .bool false) rfl rfl rfl (hK' _ _ ?_)
    have vx := H.out.2.2.1.after hc
    have vy := H.out.2.2.2.after hc
    have ac := H.out.1.trans hc
    obtain ⟨p0, p1, p2⟩ := vx.cell_sg F.out.1 FX.out
    obtain ⟨r0, r1, r2⟩ := vy.cell_sg F.out.2.1 FY.out
    have f0 := blk_soft vy (q * 3)
    have f1 := blk_soft vy (q * 3 + 1)
    have f2 := blk_soft vy (q * 3 + 2)
    have qb : (q : Int) < 26 := by omega
    have E := hideIt (And.intro vx (And.intro vy ac))
    clear hL hK' hc S HC' vx vy ac
    go_upto_region 15 with fail
    generalize hwd : ((wc.setCell ⟨gy, q * 3, none⟩ (.bool yx.sh)).setCell ⟨gy, q * 3 + 1, none⟩ (.bool yx.so)).setCell ⟨gy, q * 3 + 2, none⟩ (.int .i64 yx.pr) = wd
    have bd : But (One gy) wc wd := by rw [← hwd]; exact ((but_one _ _ _ _).trans (but_one _ _ _ _)).trans (but_one _ _ _ _)
    have vd : VecAt wd gy { Y with sg := Y.sg.set q yx } := by rw [← hwd]; exact E.out.2.1.sg F.out.2.1 q26 yx
    have eS : Y.sg.set q yx = X.sg := FS.out
    rw [eS] at vd
    have kd : Vec.Ok { Y with sg := X.sg } := ⟨F.out.1.1, F.out.2.1.2⟩
    have xd : VecAt wd gx X := (bd.block _ (blk_lt E.out.1) hne).trans E.out.1
    have ad : After w wd := But.then E.out.2.2 bd (fun i hi (t : i = gy) => by omega)
    have rx := xd.range_sg
    have ry := vd.range_sg
    have j0 := xd.cell_lk F.out.1 (i := 0) (by decide)
    have j1 := xd.cell_lk F.out.1 (i := 1) (by decide)
    have j2 := xd.cell_lk F.out.1 (i := 2) (by decide)
    have j3 := xd.cell_lk F.out.1 (i := 3) (by decide)
    rw [F.out.2.2.2.2.2.1] at j0 j1 j2 j3
    have l0 := vd.cell_lk kd (i := 0) (by decide)
    have l1 := vd.cell_lk kd (i := 1) (by decide)
    have l2 := vd.cell_lk kd (i := 2) (by decide)
    have l3 := vd.cell_lk kd (i := 3) (by decide)
    have ef := (vd.cell_mid kd).2.2
    dsimp only at l0 l1 l2 l3 ef
    rw [F.out.2.2.2.2.2.2.1] at l0 l1 l2 l3
    rw [F.out.2.2.2.2.2.2.2.1] at ef
    simp only [List.getD_cons_zero, List.getD_cons_succ, Nat.reduceAdd, Nat.add_zero] at j0 j1 j2 j3 l0 l1 l2 l3
    have Z := hideIt (And.intro rx (And.intro ry (And.intro ad F.out.1.1)))
    have i78 : (Try.prog.info? 26).map (·.size) = some (sgE.flat X.sg).length := by rw [sgs_size F.out.1.1]; exact Try.infoSgs
    have I := hideIt i78
    have eq27 : ∀ V, (Op.equalIn 10000 27 (.agg #[.bool true, .bool false, .bool true, .bool true]) (.agg #[.bool true, .bool false, .bool true, .bool true])).run Try.prog V = .ok true V := eqLks 9998 [true, false, true, true] rfl
    clear hwd bd vd kd xd ad rx ry E p0 p1 p2 r0 r1 r2 f0 f1 f2 i78
    go_wp2_with (first | (show wpList _ _ _ (_ :: _) _ _; refine wl_load 26 (.tmp 76) _ rfl rfl rfl (sgE.flat X.sg) Z.out.1 Try.underlying26 rfl I.out ?_) | (show wpList _ _ _ (_ :: _) _ _; refine wl_load 26 (.tmp 78) _ rfl rfl rfl (sgE.flat X.sg) Z.out.2.1 Try.underlying26 rfl I.out ?_) | (show wpList _ _ _ (_ :: _) _ _; refine wl_bin (t := 26) (p := sgsV X.sg) (q := sgsV X.sg) rfl rfl rfl rfl (eqSgs2 _ _ Z.out.2.2.2 _) ?_) | fail)
    go_ret
    exact ⟨rfl, Z.out.2.2.1⟩
end Go.Proofs.Ytaiagijepnaalaa
