/-
  ExecKept: what was put stays, whatever becomes of who put it.
-/
import Derived.Test.YtkjjjibglaffnaaExU
namespace Go.Proofs.Ytkjjjibglaffnaa
open Go.RowKit
set_option maxRecDepth 8000
/-- Two literal tasks, the second one made first, and their list. -/
def revW (w : World) (c2 : Array Value) (n2 : Nat) (c1 : Array Value) (n1 : Nat) : World :=
  ((((w.alloc (.cells c2 67)).alloc (.cells #[.slice (some ⟨w.heap.size, 0, none⟩) n2 n2, .slice none 0 0, .pointer none] 63)).alloc (.cells c1 67)).alloc (.cells #[.slice (some ⟨w.heap.size + 1 + 1, 0, none⟩) n1 n1, .slice none 0 0, .pointer none] 63)).alloc (.cells #[.iface 58 (Ptr (w.heap.size + 1 + 1 + 1)), .iface 58 (Ptr (w.heap.size + 1))] 97)
def revT (n : Nat) (D1 D2 : List De) : List (Option Tk) := [some ⟨n + 1 + 1 + 1, some ⟨n + 1 + 1, 0, none⟩, D1.length, D1⟩, some ⟨n + 1, some ⟨n, 0, none⟩, D2.length, D2⟩]
/-- One, beside none. -/
def oneW (w : World) (c : Array Value) (n : Nat) : World :=
  ((w.alloc (.cells c 67)).alloc (.cells #[.slice (some ⟨w.heap.size, 0, none⟩) n n, .slice none 0 0, .pointer none] 63)).alloc (.cells #[.nilIface, .iface 58 (Ptr (w.heap.size + 1))] 97)
def oneT (n : Nat) (D : List De) : List (Option Tk) := [none, some ⟨n + 1, some ⟨n, 0, none⟩, D.length, D⟩]
theorem setf_twice (i j : Nat) : setf (setf (fun _ => ([] : List He)) i []) j [] = fun _ => [] := by rw [setf_same (fun _ => ([] : List He)) i, setf_same (fun _ => ([] : List He)) j]
theorem setf_twiceV (i j : Nat) : setf (setf (fun _ => Value.pointer none) i (.pointer none)) j (.pointer none) = fun _ => Value.pointer none := by rw [setf_same (fun _ => Value.pointer none) i, setf_same (fun _ => Value.pointer none) j]
theorem rev_lit {B : Nat} {w : World} {p : Nat} {o : Nat → Nat} {x : Xp} {lv : Value} (X : Xe B w p o x lv) (hB : B ≤ w.heap.size) {c1 c2 : Array Value} {D1 D2 : List De} {n1 n2 : Nat} (h1 : c1.toList = deE.flat D1) (h2 : c2.toList = deE.flat D2) (e1 : n1 = D1.length) (e2 : n2 = D2.length) {W : World} (hW : W = revW w c2 n2 c1 n1) :
    ∃ o', Xe B W p o' x lv ∧ Sy W o' lv x.L (revT w.heap.size D1 D2) (fun _ => []) (fun _ => .pointer none) ∧ GRow ivE W (some ⟨w.heap.size + 1 + 1 + 1 + 1, 0, none⟩) 2 ((revT w.heap.size D1 D2).map ivOf) ∧ After w W ∧ (∀ k, k < w.heap.size → o' k = o k) := by
  subst e1
  subst e2
  obtain ⟨W5, hW5⟩ : ∃ W, W = (w.alloc (.cells c2 67)).alloc (.cells #[.slice (some ⟨w.heap.size, 0, none⟩) D2.length D2.length, .slice none 0 0, .pointer none] 63) := ⟨_, rfl⟩
  obtain ⟨y5, a5, s5⟩ := (X.sy.addNone).litAt (i := 1) (TL' := [none, some ⟨w.heap.size + 1, some ⟨w.heap.size, 0, none⟩, D2.length, D2⟩]) rfl (fun j k' hj hk => by
    match j, hj, hk with
    | 0, _, hk => cases hk
    | 1, hj, _ => exact absurd rfl hj
    | j + 2, _, hk => rw [List.getElem?_eq_none (by simp)] at hk; cases hk) h2 hW5
  have X5 := X.go hB a5 (fun _ _ t => t.elim) (fun q hq => upd_ne _ _ (by omega)) y5.bnd
  obtain ⟨W6, hW6⟩ : ∃ W, W = (W5.alloc (.cells c1 67)).alloc (.cells #[.slice (some ⟨W5.heap.size, 0, none⟩) D1.length D1.length, .slice none 0 0, .pointer none] 63) := ⟨_, rfl⟩
  obtain ⟨y6, a6, s6⟩ := y5.litAt (i := 0) (TL' := [some ⟨W5.heap.size + 1, some ⟨W5.heap.size, 0, none⟩, D1.length, D1⟩, some ⟨w.heap.size + 1, some ⟨w.heap.size, 0, none⟩, D2.length, D2⟩]) rfl (fun j k' hj hk => by
    match j, hj, hk with
    | 0, hj, _ => exact absurd rfl hj
    | 1, _, hk => exact hk
    | j + 2, _, hk => rw [List.getElem?_eq_none (by simp)] at hk; cases hk) h1 hW6
  have X6 := X5.go (Nat.le_trans hB a5.size) a6 (fun _ _ t => t.elim) (fun q hq => upd_ne _ _ (by omega)) y6.bnd
  have he : ∀ k, k < w.heap.size → upd (upd o (w.heap.size + 1) (10 + 2 * 1)) (W5.heap.size + 1) (10 + 2 * 0) k = o k := fun k hk => by
    rw [upd_ne _ _ (by omega), upd_ne _ _ (by omega)]
  rw [s5] at s6 X6 y6 he
  have hW' : W = W6.alloc (.cells #[.iface 58 (Ptr (w.heap.size + 1 + 1 + 1)), .iface 58 (Ptr (w.heap.size + 1))] 97) := by rw [hW, hW6, s5, hW5]; rfl
  have a7 : After W6 W := by rw [hW']; exact After.rfl.alloc _
  have hb7 : W.heap[w.heap.size + 1 + 1 + 1 + 1]? = some (.cells #[.iface 58 (Ptr (w.heap.size + 1 + 1 + 1)), .iface 58 (Ptr (w.heap.size + 1))] 97 (0, 0)) := by
    rw [hW']
    have := heap_alloc_new W6 (.cells #[.iface 58 (Ptr (w.heap.size + 1 + 1 + 1)), .iface 58 (Ptr (w.heap.size + 1))] 97)
    rw [s6] at this
    exact this
  have y8 := y6.after a7
  rw [setf_twice, setf_twiceV] at y8
  exact ⟨_, X6.after a7, y8, lit_row hb7 rfl rfl, (a5.trans a6).trans a7, he⟩
theorem one_lit {B : Nat} {w : World} {p : Nat} {o : Nat → Nat} {x : Xp} {lv : Value} (X : Xe B w p o x lv) (hB : B ≤ w.heap.size) {c : Array Value} {D : List De} {n : Nat} (h1 : c.toList = deE.flat D) (e1 : n = D.length) {W : World} (hW : W = oneW w c n) :
    ∃ o', Xe B W p o' x lv ∧ Sy W o' lv x.L (oneT w.heap.size D) (fun _ => []) (fun _ => .pointer none) ∧ GRow ivE W (some ⟨w.heap.size + 1 + 1, 0, none⟩) 2 ((oneT w.heap.size D).map ivOf) ∧ After w W ∧ (∀ k, k < w.heap.size → o' k = o k) := by
  subst e1
  obtain ⟨W5, hW5⟩ : ∃ W, W = (w.alloc (.cells c 67)).alloc (.cells #[.slice (some ⟨w.heap.size, 0, none⟩) D.length D.length, .slice none 0 0, .pointer none] 63) := ⟨_, rfl⟩
  obtain ⟨y5, a5, s5⟩ := (X.sy.addNone).litAt (i := 1) (TL' := oneT w.heap.size D) rfl (fun j k' hj hk => by
    match j, hj, hk with
    | 0, _, hk => cases hk
    | 1, hj, _ => exact absurd rfl hj
    | j + 2, _, hk => rw [List.getElem?_eq_none (by simp [oneT])] at hk; cases hk) h1 hW5
  have X5 := X.go hB a5 (fun _ _ t => t.elim) (fun q hq => upd_ne _ _ (by omega)) y5.bnd
  have hW' : W = W5.alloc (.cells #[.nilIface, .iface 58 (Ptr (w.heap.size + 1))] 97) := by rw [hW, hW5]; rfl
  have a7 : After W5 W := by rw [hW']; exact After.rfl.alloc _
  have hb7 : W.heap[w.heap.size + 1 + 1]? = some (.cells #[.nilIface, .iface 58 (Ptr (w.heap.size + 1))] 97 (0, 0)) := by
    rw [hW', ← s5]
    exact heap_alloc_new W5 _
  have y8 := y5.after a7
  rw [setf_same (fun _ => ([] : List He)) 1, setf_same (fun _ => Value.pointer none) 1] at y8
  exact ⟨_, X5.after a7, y8, lit_row hb7 rfl rfl, a5.trans a7, fun k hk => upd_ne _ _ (by omega)⟩
theorem fit_one {t1 : Nat} {a1 : Option Addr} {c1 : Nat} {D1 : List De} {N : Nat} (h1 : D1.length ≤ N ∧ ∀ d ∈ D1, -9223372036854775808 ≤ d.k ∧ d.k ≤ 9223372036854775807) : Fit [none, some ⟨t1, a1, c1, D1⟩] N := by
  intro i k hk
  match i, hk with
  | 0, hk => cases hk
  | 1, hk => simp at hk; subst hk; exact h1
  | i + 2, hk => rw [List.getElem?_eq_none (by simp)] at hk; cases hk
/-- Kinds within bounds. -/
def Kin (D : List De) : Prop := ∀ d ∈ D, -9223372036854775808 ≤ d.k ∧ d.k ≤ 9223372036854775807
theorem kin_nil : Kin [] := fun d hd => by cases hd
theorem Kin.cons {d : De} {D : List De} (h1 : -9223372036854775808 ≤ d.k ∧ d.k ≤ 9223372036854775807) (h : Kin D) : Kin (d :: D) := fun e he => by
  rcases List.mem_cons.1 he with rfl | he
  · exact h1
  · exact h e he
/-- The exec of the statement, its link with a number. -/
def kpX (v : Option Int) : Xp := ⟨[[0, 1]], [3, 0], [⟨0, 1, v⟩], 0⟩
def kpD : List De := [⟨1, 0, 0⟩, ⟨2, 0, 5⟩]
theorem kp_links (n : Nat) (v : Int) : ((kpX (some v)).run (DSof (oneT n kpD)) (fun _ => [])).2.1 = [⟨0, 1, some v⟩] := by rfl
theorem kp_tick (n : Nat) (v : Int) : (kpX (some v)).tick (DSof (oneT n kpD)) (fun _ => []) = kpX (some v) := by
  have h : (kpX (some v)).next.at_ = 0 := Nat.mod_one _
  show (⟨[[0, 1]], [3, 0], _, (kpX (some v)).next.at_⟩ : Xp) = _
  rw [kp_links, h]
  rfl
set_option maxHeartbeats 4000000 in
theorem law_kept21 (w : World) (v how ticks : Int) (hv1 : -9223372036854775808 ≤ how) (hv2 : how ≤ 9223372036854775807) (ht1 : -9223372036854775808 ≤ ticks) (ht2 : ticks ≤ 9223372036854775807) :
    Calls Try.prog 7 #[.int .i64 v, .int .i64 how, .int .i64 ticks] w fun e w' => e = .returned (.bool true) ∧ After w w' := by
  have HA := hideIt (awake_any w)
  have HB := hideIt (fun V => bring_any how 4 V hv1 hv2 (by decide) (by decide))
  have HT := hideIt (fun V => bring_any ticks 10 V ht1 ht2 (by decide) (by decide))
  have hK := broughtTo_lt how (m := 4) (by decide)
  have hT := broughtTo_lt ticks (m := 10) (by decide)
  generalize broughtTo how 4 = K at *
  generalize broughtTo ticks 10 = T at *
  have i0 : (T : Int) < 10 := by omega
  clear hv1 hv2 ht1 ht2 hT
  go_enter Try.func7, Try.ntmps7
  go_wp2_with fail
  refine HA.out.mono ?_
  rintro e w1 ⟨rfl, af1⟩
  have A1 := hideIt af1
  clear af1 HA
  obtain ⟨W2, hW2⟩ : ∃ W, W = allocs w1 [(#[.int .i64 0, .int .i64 1], 3), (#[.slice (some ⟨w1.heap.size, 0, none⟩) 2 2], 23), (#[.int .i64 3, .int .i64 0], 3), (#[.int .i64 0, .int .i64 1], 65)] := ⟨_, rfl⟩
  have at_ := fun i cs T h => allocs_at [(#[.int .i64 0, .int .i64 1], 3), (#[.slice (some ⟨w1.heap.size, 0, none⟩) 2 2], 23), (#[.int .i64 3, .int .i64 0], 3), (#[.int .i64 0, .int .i64 1], 65)] w1 i cs T h
  have af2 := (allocs_after [(#[.int .i64 0, .int .i64 1], 3), (#[.slice (some ⟨w1.heap.size, 0, none⟩) 2 2], 23), (#[.int .i64 3, .int .i64 0], 3), (#[.int .i64 0, .int .i64 1], 65)] w1).1
  rw [← hW2] at at_ af2
  have HN := hideIt (new_xe (w0 := W2) (fa := some ⟨w1.heap.size + 1, 0, none⟩) (fn := 1) (fc := 1) (fs0 := [⟨some ⟨w1.heap.size, 0, none⟩, 2, [0, 1]⟩]) (sa := some ⟨w1.heap.size + 1 + 1, 0, none⟩) (sn := 2) (sc := 2) (st := [3, 0]) (la := some ⟨w1.heap.size + 1 + 1 + 1, 0, none⟩) (ln := 1) (lc := 1) (lk := [(0, 1)]) rfl rfl rfl (lit_row (at_ 1 _ _ rfl) rfl rfl) (fun f hf => by
    rw [List.mem_singleton] at hf
    subst hf
    have := at_ 0 _ _ rfl
    rw [Nat.add_zero] at this
    exact ⟨lit_row this rfl rfl, (fun h => by cases h), show (2 : Nat) ≤ 1000 by decide⟩) (lit_row (at_ 2 _ _ rfl) rfl rfl) (fun h => by cases h) (lit_row (at_ 3 _ _ rfl) rfl rfl) (show chkT [[0, 1]] [3, 0] [(0, 1)] = 0 by decide))
  have A2 := hideIt (A1.out.trans af2)
  have HW2 := hideIt hW2
  clear at_ af2 hW2 A1
  go_wp2_with fail
  refine Eq.mp (congrArg (fun W => Calls _ _ _ W _) (show W2 = _ from HW2.out)) ?_
  refine HN.out.mono ?_
  rintro e w4 ⟨p, o, lv, rfl, X, af4, hp⟩
  have HX := hideIt (And.intro X (And.intro af4 hp))
  obtain ⟨W5, hW5⟩ : ∃ W, W = w4.alloc (.cells #[.int .i64 0, .int .i64 9, .int .i64 0, .int .i64 3, .int .i64 0, .int .i64 0, .int .i64 5, .int .i64 0, .int .i64 0, .int .i64 9, .int .i64 0, .int .i64 0] 67) := ⟨_, rfl⟩
  have h5 : W5.heap[w4.heap.size]? = some (.cells #[.int .i64 0, .int .i64 9, .int .i64 0, .int .i64 3, .int .i64 0, .int .i64 0, .int .i64 5, .int .i64 0, .int .i64 0, .int .i64 9, .int .i64 0, .int .i64 0] 67 (0, 0)) := by rw [hW5]; exact heap_alloc_new w4 _
  have s5 : W5.heap.size = w4.heap.size + 1 := by rw [hW5]; simp
  have A5 := hideIt (show After w4 W5 by rw [hW5]; exact After.rfl.alloc _)
  have HW5 := hideIt hW5
  have HS5 := hideIt s5
  clear X af4 hp hW5 HN HW2 s5
  go_wp2_with fail
  rw [← HW5.out]
  refine (HB.out W5).mono ?_
  rintro e w5 ⟨rfl, hw⟩
  obtain rfl := hw.symm
  have hl5 := blk_lt h5
  obtain ⟨z, hz⟩ : ∃ z, z = bits BinOp.xor IntKind.i64 v 1 := ⟨_, rfl⟩
  have HZ := hideIt hz
  clear hz
  rcases (by omega : K = 0 ∨ K = 1 ∨ K = 2 ∨ K = 3) with rfl | rfl | rfl | rfl
  · have q0 := blk_cell h5 (i := 0) rfl
    have q1 := blk_cell h5 (i := 1) rfl
    have q2 := blk_cell h5 (i := 2) rfl
    obtain ⟨W6, hW6⟩ : ∃ W, W = W5.alloc (.cells #[.int .i64 0, .int .i64 9, .int .i64 0] 67) := ⟨_, rfl⟩
    have h6 : W6.heap[W5.heap.size]? = some (.cells #[.int .i64 0, .int .i64 9, .int .i64 0] 67 (0, 0)) := by rw [hW6]; exact heap_alloc_new W5 _
    obtain ⟨gd, hgd⟩ : ∃ g, g = W5.heap.size := ⟨_, rfl⟩
    rw [← hgd] at h6
    have A6 := hideIt (show After W5 W6 by rw [hW6]; exact After.rfl.alloc _)
    have H6 := hideIt h6
    have HW6 := hideIt hW6
    have HG6 := hideIt hgd
    have g0 := blk_cell h6 (i := 0) rfl
    have g1 := blk_cell h6 (i := 1) rfl
    have g2 := blk_cell h6 (i := 2) rfl
    have lg := blk_lt h6
    have s6 : W6.heap.size = W5.heap.size + 1 := by rw [hW6]; simp
    obtain ⟨W7, hW7⟩ : ∃ W, W = revW W6 #[.int .i64 1, .int .i64 0, .int .i64 0] 1 #[.int .i64 2, .int .i64 0, .int .i64 v, .int .i64 0, .int .i64 9, .int .i64 0, .int .i64 2, .int .i64 0, .int .i64 z] 3 := ⟨_, rfl⟩
    have X := HX.out.1
    have B6 := Nat.le_trans (Nat.le_trans HX.out.2.1.size A5.out.size) A6.out.size
    have X6 := (X.after A5.out).after A6.out
    obtain ⟨o2, X7, y7, r7, a7, he⟩ := rev_lit X6 B6 (D1 := [⟨2, 0, v⟩, ⟨0, 9, 0⟩, ⟨2, 0, z⟩]) (D2 := [⟨1, 0, 0⟩]) rfl rfl rfl rfl hW7
    have og : o2 gd = 0 := by
      rw [he gd (by rw [s6, hgd]; omega)]
      rcases Nat.eq_zero_or_pos (o gd) with e | e
      · exact e
      · have := X.bnd gd (by omega); omega
    have ht := xe_tick (TL := revT W6.heap.size [⟨2, 0, v⟩, ⟨0, 9, 0⟩, ⟨2, 0, z⟩] [⟨1, 0, 0⟩]) (N := 3) (M := 0) (tc := 2) X7 y7 r7 (fun q hq _ => by cases hq; have := X6.op.2; show W6.heap.size + 1 + 1 + 1 + 1 ≠ p; omega) (fun h => by cases h) rfl (fit_two ⟨Nat.le_refl 3, (Kin.cons (show (-9223372036854775808 : Int) ≤ 2 ∧ (2 : Int) ≤ 9223372036854775807 by decide) (Kin.cons (show (-9223372036854775808 : Int) ≤ 0 ∧ (0 : Int) ≤ 9223372036854775807 by decide) (Kin.cons (show (-9223372036854775808 : Int) ≤ 2 ∧ (2 : Int) ≤ 9223372036854775807 by decide) kin_nil)))⟩ ⟨by decide, by decide⟩) (by decide) (by decide) (fun _ => Nat.le_refl _) (Nat.le_trans B6 a7.size)
    have g7 := (a7.block gd (by rw [s6, hgd]; omega) (fun t => t)).trans ((show W6.heap[gd]? = _ from h6))
    have hW7' := hW7
    rw [revW, s6, hW6] at hW7'
    rw [s6] at ht
    have HTk := hideIt ht
    have HG7 := hideIt (And.intro g7 (And.intro og (And.intro (Nat.le_trans B6 a7.size) ((((HX.out.2.1.trans A5.out).trans A6.out).trans a7)))))
    have HW7 := hideIt hW7'
    clear hW6 h6 hgd hW7 hW7' X X6 X7 y7 r7 a7 he og ht g7 B6 s6
    go_wp2_with fail
    rw [← HZ.out]
    refine Eq.mp (congrArg (fun W => Calls _ _ _ W _) (show W7 = _ from HW7.out)) ?_
    refine HTk.out.mono ?_
    rintro e w8 ⟨v8, o8, CV8, rfl, own, X8, y8, go8, lab8⟩
    have hr1 : ((kpX none).run (DSof (revT (W5.heap.size + 1) [⟨2, 0, v⟩, ⟨0, 9, 0⟩, ⟨2, 0, z⟩] [⟨1, 0, 0⟩])) (fun _ => [])).1 = [⟨0, ⟨0, true, false⟩⟩, ⟨1, ⟨0, false, false⟩⟩] := rfl
    have hr2 : ((kpX none).run (DSof (revT (W5.heap.size + 1) [⟨2, 0, v⟩, ⟨0, 9, 0⟩, ⟨2, 0, z⟩] [⟨1, 0, 0⟩])) (fun _ => [])).2.2 1 = [⟨v, true⟩] := rfl
    have hr3 : (⟨[[0, 1]], [3, 0], mkL [(0, 1)], 0⟩ : Xp).tick (DSof (revT (W5.heap.size + 1) [⟨2, 0, v⟩, ⟨0, 9, 0⟩, ⟨2, 0, z⟩] [⟨1, 0, 0⟩])) (fun _ => []) = kpX (some v) := rfl
    have X8' : Xe W2.heap.size w8 p o8 ((⟨[[0, 1]], [3, 0], mkL [(0, 1)], 0⟩ : Xp).tick (DSof (revT (W5.heap.size + 1) [⟨2, 0, v⟩, ⟨0, 9, 0⟩, ⟨2, 0, z⟩] [⟨1, 0, 0⟩])) (fun _ => [])) lv := X8
    rw [hr3] at X8'
    have own1 : ORow anE 48 w8 0 v8 [⟨0, ⟨0, true, false⟩⟩, ⟨1, ⟨0, false, false⟩⟩] := by rw [← hr1]; exact own
    obtain ⟨vh, tx⟩ := y8.tk 1 ⟨W5.heap.size + 1 + 1, some ⟨W5.heap.size + 1, 0, none⟩, 1, [⟨1, 0, 0⟩]⟩ rfl
    have oh : ORow heE 69 w8 0 vh [⟨v, true⟩] := by rw [← hr2]; exact tx.own
    obtain ⟨g, c, rfl, _, hr⟩ := own_some own1 (by decide)
    obtain ⟨gh, ch, rfl, _, hh⟩ := own_some oh (Nat.le_refl 1)
    have t1 := blk_cell tx.at0 (i := 1) rfl
    have u0 := cells_of hr (j := 0) rfl
    have u1 := cells_of hr (j := 1) rfl
    have u2 := cells_of hr (j := 2) rfl
    have u3 := cells_of hr (j := 3) rfl
    have v0 := cells_of hh (j := 0) rfl
    have v1 := cells_of hh (j := 1) rfl
    have g8 := (go8.but.block gd (blk_lt HG7.out.1) (fun h => by rw [HG7.out.2.1] at h; exact AK0 h rfl)).trans HG7.out.1
    have z0 := blk_cell g8 (i := 0) rfl
    have lz := blk_lt g8
    have lt1 := blk_lt tx.at0
    have lu := cell_lt u0
    have lv0 := cell_lt v0
    have H8 := hideIt (And.intro X8' (And.intro g8 (And.intro (Nat.le_trans HG7.out.2.2.1 go8.but.size) (HG7.out.2.2.2.then go8.but (fun k hk h => by
      have h1 := AK0 h
      have h2 := X8.base k (by rw [go8.ext k (Nat.lt_of_lt_of_le hk HG7.out.2.2.2.size)]; exact h1)
      omega)))))
    clear own own1 oh tx X8 X8' y8 go8 lab8 hr hh hr1 hr2 HTk HW7 HG7 g8
    dsimp only at u0 u1 u2 u3 v0 v1
    rw [HG6.out] at z0 lz
    have q1 : (v != v) = false := by simp
    have q2 : (v != v) = false := by simp
    go_wp2_with fail
    go_quiet (fail)
    go_wp2_with fail
    have H9 := hideIt (show (w8.alloc (.cells #[.int .i64 v, .bool true] 69)).heap[w8.heap.size]? = some (.cells #[.int .i64 v, .bool true] 69 (0, 0)) from heap_alloc_new w8 _)
    have a9 := (After.rfl (w := w8)).alloc (.cells #[.int .i64 v, .bool true] 69)
    clear t1 u0 u1 u2 u3 v0 v1 z0 lt1 lu lv0 g0 g1 g2 lg lz h5 hl5 q0
    go_loopw [15] (fun iv wr => ∃ (j : Nat) (o9 : Nat → Nat), j ≤ T ∧ iv = .int .i64 j ∧ Xe W2.heap.size wr p o9 (kpX (some v)) lv ∧ wr.heap[w8.heap.size]? = some (.cells #[.int .i64 v, .bool true] 69 (0, 0)) ∧ o9 w8.heap.size = 0 ∧ W2.heap.size ≤ wr.heap.size ∧ After W2 wr) (fun iv _ => T - (intOf iv).toNat)
    case atStart =>
      have a9' := a9.draws nq
      exact ⟨0, o8, Nat.zero_le _, rfl, H8.out.1.after a9', H9.out, free_of H8.out.1.bnd (Nat.le_refl _), Nat.le_trans H8.out.2.2.1 a9'.size, H8.out.2.2.2.trans a9'⟩
    case round =>
      obtain ⟨j, o9, hj, rfl, X9, h9, og9, B9, a29⟩ := hrel
      clear a9
      by_cases hjT : j < T
      · have i1 : (j : Int) < (T : Int) := by omega
        go_wp2_with fail
        refine (HT.out wr).mono ?_
        rintro e w10 ⟨rfl, hw⟩
        obtain rfl := hw.symm
        obtain ⟨Wa, hWa⟩ : ∃ W, W = oneW wr #[.int .i64 1, .int .i64 0, .int .i64 0, .int .i64 2, .int .i64 0, .int .i64 5] 2 := ⟨_, rfl⟩
        obtain ⟨oa, Xa, ya, ra, aa, hea⟩ := one_lit X9 B9 (D := kpD) rfl rfl hWa
        have hl9 := blk_lt h9
        have ha := xe_tick (TL := oneT wr.heap.size kpD) (N := 2) (M := 0) (tc := 2) Xa ya ra (fun q hq _ => by cases hq; have := X9.op.2; show wr.heap.size + 1 + 1 ≠ p; omega) (fun h => by cases h) rfl (fit_one ⟨by decide, by decide⟩) (by decide) (by decide) (fun _ => Nat.le_refl _) (Nat.le_trans B9 aa.size)
        have HTa := hideIt ha
        have Hb := hideIt (And.intro ((aa.block _ hl9 (fun t => t)).trans h9) (And.intro ((hea _ hl9).trans og9) (And.intro (Nat.le_trans B9 aa.size) (a29.trans aa))))
        have HWa := hideIt hWa
        clear hWa Xa ya ra aa hea ha X9 h9 og9 B9 a29 hl9
        go_wp2_with fail
        refine Eq.mp (congrArg (fun W => Calls _ _ _ W _) (show Wa = _ from HWa.out)) ?_
        refine HTa.out.mono ?_
        rintro e wb ⟨vb, ob, CVb, rfl, own, Xb, yb, gob, labb⟩
        have hr2 : ((kpX (some v)).run (DSof (oneT wr.heap.size kpD)) (fun _ => [])).2.2 1 = [⟨v, true⟩, ⟨0, false⟩] := rfl
        have hr3 : (kpX (some v)).tick (DSof (oneT wr.heap.size kpD)) (fun _ => []) = kpX (some v) := kp_tick _ _
        rw [hr3] at Xb
        obtain ⟨vh, tx⟩ := yb.tk 1 ⟨wr.heap.size + 1, some ⟨wr.heap.size, 0, none⟩, 2, kpD⟩ rfl
        have oh : ORow heE 69 wb 0 vh [⟨v, true⟩, ⟨0, false⟩] := by rw [← hr2]; exact tx.own
        obtain ⟨av, cv, ev, _⟩ := own.row
        subst ev
        obtain ⟨gh, ch, rfl, _, hh⟩ := own_some oh (show 1 ≤ 2 by decide)
        have t1 := blk_cell tx.at0 (i := 1) rfl
        have v0 := cells_of hh (j := 0) rfl
        have v1 := cells_of hh (j := 1) rfl
        have v2 := cells_of hh (j := 2) rfl
        have v3 := cells_of hh (j := 3) rfl
        have gb := (gob.but.block _ (blk_lt Hb.out.1) (fun h => by rw [Hb.out.2.1] at h; exact AK0 h rfl)).trans Hb.out.1
        have z0 := blk_cell gb (i := 0) rfl
        have z1 := blk_cell gb (i := 1) rfl
        have Hc := hideIt (And.intro Xb (And.intro gb (And.intro ((gob.ext _ (blk_lt Hb.out.1)).trans Hb.out.2.1) (And.intro (Nat.le_trans Hb.out.2.2.1 gob.but.size) (Hb.out.2.2.2.then gob.but (fun k hk h => by
          have h1 := AK0 h
          have h2 := Xb.base k (by rw [gob.ext k (Nat.lt_of_lt_of_le hk Hb.out.2.2.2.size)]; exact h1)
          omega))))))
        clear own oh tx Xb yb gob labb hh hr2 hr3 HTa HWa Hb gb
        dsimp only at v0 v1 v2 v3
        go_wp2_with fail
        go_quiet (fail)
        go_wp2_with fail
        go_roundw
        case rel =>
          obtain ⟨Xb, gb, og, B, a⟩ := Hc.out
          have ad : After wb (wb.drewN nq) := After.rfl.draws nq
          exact ⟨j + 1, ob, by omega, by go_num, Xb.after ad, (ad.block _ (blk_lt gb) (fun t => t)).trans gb, og, Nat.le_trans B ad.size, a.trans ad⟩
        case measure => simp [intOf]; omega
      · have i1 : ¬ (j : Int) < (T : Int) := by omega
        have Hc := hideIt a29
        clear X9 h9 og9 B9 a29
        go_wp2_with fail
        refine (HT.out wr).mono ?_
        rintro e w10 ⟨rfl, hw⟩
        obtain rfl := hw.symm
        go_wp2_with fail
        go_ret
        exact ⟨rfl, A2.out.trans Hc.out⟩
  · have q0 := blk_cell h5 (i := 3) rfl
    have q1 := blk_cell h5 (i := 4) rfl
    have q2 := blk_cell h5 (i := 5) rfl
    obtain ⟨W6, hW6⟩ : ∃ W, W = W5.alloc (.cells #[.int .i64 3, .int .i64 0, .int .i64 0] 67) := ⟨_, rfl⟩
    have h6 : W6.heap[W5.heap.size]? = some (.cells #[.int .i64 3, .int .i64 0, .int .i64 0] 67 (0, 0)) := by rw [hW6]; exact heap_alloc_new W5 _
    obtain ⟨gd, hgd⟩ : ∃ g, g = W5.heap.size := ⟨_, rfl⟩
    rw [← hgd] at h6
    have A6 := hideIt (show After W5 W6 by rw [hW6]; exact After.rfl.alloc _)
    have H6 := hideIt h6
    have HW6 := hideIt hW6
    have HG6 := hideIt hgd
    have g0 := blk_cell h6 (i := 0) rfl
    have g1 := blk_cell h6 (i := 1) rfl
    have g2 := blk_cell h6 (i := 2) rfl
    have lg := blk_lt h6
    have s6 : W6.heap.size = W5.heap.size + 1 := by rw [hW6]; simp
    obtain ⟨W7, hW7⟩ : ∃ W, W = revW W6 #[.int .i64 1, .int .i64 0, .int .i64 0] 1 #[.int .i64 2, .int .i64 0, .int .i64 v, .int .i64 3, .int .i64 0, .int .i64 0, .int .i64 2, .int .i64 0, .int .i64 z] 3 := ⟨_, rfl⟩
    have X := HX.out.1
    have B6 := Nat.le_trans (Nat.le_trans HX.out.2.1.size A5.out.size) A6.out.size
    have X6 := (X.after A5.out).after A6.out
    obtain ⟨o2, X7, y7, r7, a7, he⟩ := rev_lit X6 B6 (D1 := [⟨2, 0, v⟩, ⟨3, 0, 0⟩, ⟨2, 0, z⟩]) (D2 := [⟨1, 0, 0⟩]) rfl rfl rfl rfl hW7
    have og : o2 gd = 0 := by
      rw [he gd (by rw [s6, hgd]; omega)]
      rcases Nat.eq_zero_or_pos (o gd) with e | e
      · exact e
      · have := X.bnd gd (by omega); omega
    have ht := xe_tick (TL := revT W6.heap.size [⟨2, 0, v⟩, ⟨3, 0, 0⟩, ⟨2, 0, z⟩] [⟨1, 0, 0⟩]) (N := 3) (M := 0) (tc := 2) X7 y7 r7 (fun q hq _ => by cases hq; have := X6.op.2; show W6.heap.size + 1 + 1 + 1 + 1 ≠ p; omega) (fun h => by cases h) rfl (fit_two ⟨Nat.le_refl 3, (Kin.cons (show (-9223372036854775808 : Int) ≤ 2 ∧ (2 : Int) ≤ 9223372036854775807 by decide) (Kin.cons (show (-9223372036854775808 : Int) ≤ 3 ∧ (3 : Int) ≤ 9223372036854775807 by decide) (Kin.cons (show (-9223372036854775808 : Int) ≤ 2 ∧ (2 : Int) ≤ 9223372036854775807 by decide) kin_nil)))⟩ ⟨by decide, by decide⟩) (by decide) (by decide) (fun _ => Nat.le_refl _) (Nat.le_trans B6 a7.size)
    have g7 := (a7.block gd (by rw [s6, hgd]; omega) (fun t => t)).trans ((show W6.heap[gd]? = _ from h6))
    have hW7' := hW7
    rw [revW, s6, hW6] at hW7'
    rw [s6] at ht
    have HTk := hideIt ht
    have HG7 := hideIt (And.intro g7 (And.intro og (And.intro (Nat.le_trans B6 a7.size) ((((HX.out.2.1.trans A5.out).trans A6.out).trans a7)))))
    have HW7 := hideIt hW7'
    clear hW6 h6 hgd hW7 hW7' X X6 X7 y7 r7 a7 he og ht g7 B6 s6
    go_wp2_with fail
    rw [← HZ.out]
    refine Eq.mp (congrArg (fun W => Calls _ _ _ W _) (show W7 = _ from HW7.out)) ?_
    refine HTk.out.mono ?_
    rintro e w8 ⟨v8, o8, CV8, rfl, own, X8, y8, go8, lab8⟩
    have hr1 : ((kpX none).run (DSof (revT (W5.heap.size + 1) [⟨2, 0, v⟩, ⟨3, 0, 0⟩, ⟨2, 0, z⟩] [⟨1, 0, 0⟩])) (fun _ => [])).1 = [⟨0, ⟨0, false, true⟩⟩, ⟨1, ⟨0, false, false⟩⟩] := rfl
    have hr2 : ((kpX none).run (DSof (revT (W5.heap.size + 1) [⟨2, 0, v⟩, ⟨3, 0, 0⟩, ⟨2, 0, z⟩] [⟨1, 0, 0⟩])) (fun _ => [])).2.2 1 = [⟨v, true⟩] := rfl
    have hr3 : (⟨[[0, 1]], [3, 0], mkL [(0, 1)], 0⟩ : Xp).tick (DSof (revT (W5.heap.size + 1) [⟨2, 0, v⟩, ⟨3, 0, 0⟩, ⟨2, 0, z⟩] [⟨1, 0, 0⟩])) (fun _ => []) = kpX (some v) := rfl
    have X8' : Xe W2.heap.size w8 p o8 ((⟨[[0, 1]], [3, 0], mkL [(0, 1)], 0⟩ : Xp).tick (DSof (revT (W5.heap.size + 1) [⟨2, 0, v⟩, ⟨3, 0, 0⟩, ⟨2, 0, z⟩] [⟨1, 0, 0⟩])) (fun _ => [])) lv := X8
    rw [hr3] at X8'
    have own1 : ORow anE 48 w8 0 v8 [⟨0, ⟨0, false, true⟩⟩, ⟨1, ⟨0, false, false⟩⟩] := by rw [← hr1]; exact own
    obtain ⟨vh, tx⟩ := y8.tk 1 ⟨W5.heap.size + 1 + 1, some ⟨W5.heap.size + 1, 0, none⟩, 1, [⟨1, 0, 0⟩]⟩ rfl
    have oh : ORow heE 69 w8 0 vh [⟨v, true⟩] := by rw [← hr2]; exact tx.own
    obtain ⟨g, c, rfl, _, hr⟩ := own_some own1 (by decide)
    obtain ⟨gh, ch, rfl, _, hh⟩ := own_some oh (Nat.le_refl 1)
    have t1 := blk_cell tx.at0 (i := 1) rfl
    have u0 := cells_of hr (j := 0) rfl
    have u1 := cells_of hr (j := 1) rfl
    have u2 := cells_of hr (j := 2) rfl
    have u3 := cells_of hr (j := 3) rfl
    have v0 := cells_of hh (j := 0) rfl
    have v1 := cells_of hh (j := 1) rfl
    have g8 := (go8.but.block gd (blk_lt HG7.out.1) (fun h => by rw [HG7.out.2.1] at h; exact AK0 h rfl)).trans HG7.out.1
    have z0 := blk_cell g8 (i := 0) rfl
    have lz := blk_lt g8
    have lt1 := blk_lt tx.at0
    have lu := cell_lt u0
    have lv0 := cell_lt v0
    have H8 := hideIt (And.intro X8' (And.intro g8 (And.intro (Nat.le_trans HG7.out.2.2.1 go8.but.size) (HG7.out.2.2.2.then go8.but (fun k hk h => by
      have h1 := AK0 h
      have h2 := X8.base k (by rw [go8.ext k (Nat.lt_of_lt_of_le hk HG7.out.2.2.2.size)]; exact h1)
      omega)))))
    clear own own1 oh tx X8 X8' y8 go8 lab8 hr hh hr1 hr2 HTk HW7 HG7 g8
    dsimp only at u0 u1 u2 u3 v0 v1
    rw [HG6.out] at z0 lz
    have q1 : (v != v) = false := by simp
    have q2 : (v != v) = false := by simp
    go_wp2_with fail
    go_quiet (fail)
    go_wp2_with fail
    have H9 := hideIt (show (w8.alloc (.cells #[.int .i64 v, .bool true] 69)).heap[w8.heap.size]? = some (.cells #[.int .i64 v, .bool true] 69 (0, 0)) from heap_alloc_new w8 _)
    have a9 := (After.rfl (w := w8)).alloc (.cells #[.int .i64 v, .bool true] 69)
    clear t1 u0 u1 u2 u3 v0 v1 z0 lt1 lu lv0 g0 g1 g2 lg lz h5 hl5 q0
    go_loopw [15] (fun iv wr => ∃ (j : Nat) (o9 : Nat → Nat), j ≤ T ∧ iv = .int .i64 j ∧ Xe W2.heap.size wr p o9 (kpX (some v)) lv ∧ wr.heap[w8.heap.size]? = some (.cells #[.int .i64 v, .bool true] 69 (0, 0)) ∧ o9 w8.heap.size = 0 ∧ W2.heap.size ≤ wr.heap.size ∧ After W2 wr) (fun iv _ => T - (intOf iv).toNat)
    case atStart =>
      have a9' := a9.draws nq
      exact ⟨0, o8, Nat.zero_le _, rfl, H8.out.1.after a9', H9.out, free_of H8.out.1.bnd (Nat.le_refl _), Nat.le_trans H8.out.2.2.1 a9'.size, H8.out.2.2.2.trans a9'⟩
    case round =>
      obtain ⟨j, o9, hj, rfl, X9, h9, og9, B9, a29⟩ := hrel
      clear a9
      by_cases hjT : j < T
      · have i1 : (j : Int) < (T : Int) := by omega
        go_wp2_with fail
        refine (HT.out wr).mono ?_
        rintro e w10 ⟨rfl, hw⟩
        obtain rfl := hw.symm
        obtain ⟨Wa, hWa⟩ : ∃ W, W = oneW wr #[.int .i64 1, .int .i64 0, .int .i64 0, .int .i64 2, .int .i64 0, .int .i64 5] 2 := ⟨_, rfl⟩
        obtain ⟨oa, Xa, ya, ra, aa, hea⟩ := one_lit X9 B9 (D := kpD) rfl rfl hWa
        have hl9 := blk_lt h9
        have ha := xe_tick (TL := oneT wr.heap.size kpD) (N := 2) (M := 0) (tc := 2) Xa ya ra (fun q hq _ => by cases hq; have := X9.op.2; show wr.heap.size + 1 + 1 ≠ p; omega) (fun h => by cases h) rfl (fit_one ⟨by decide, by decide⟩) (by decide) (by decide) (fun _ => Nat.le_refl _) (Nat.le_trans B9 aa.size)
        have HTa := hideIt ha
        have Hb := hideIt (And.intro ((aa.block _ hl9 (fun t => t)).trans h9) (And.intro ((hea _ hl9).trans og9) (And.intro (Nat.le_trans B9 aa.size) (a29.trans aa))))
        have HWa := hideIt hWa
        clear hWa Xa ya ra aa hea ha X9 h9 og9 B9 a29 hl9
        go_wp2_with fail
        refine Eq.mp (congrArg (fun W => Calls _ _ _ W _) (show Wa = _ from HWa.out)) ?_
        refine HTa.out.mono ?_
        rintro e wb ⟨vb, ob, CVb, rfl, own, Xb, yb, gob, labb⟩
        have hr2 : ((kpX (some v)).run (DSof (oneT wr.heap.size kpD)) (fun _ => [])).2.2 1 = [⟨v, true⟩, ⟨0, false⟩] := rfl
        have hr3 : (kpX (some v)).tick (DSof (oneT wr.heap.size kpD)) (fun _ => []) = kpX (some v) := kp_tick _ _
        rw [hr3] at Xb
        obtain ⟨vh, tx⟩ := yb.tk 1 ⟨wr.heap.size + 1, some ⟨wr.heap.size, 0, none⟩, 2, kpD⟩ rfl
        have oh : ORow heE 69 wb 0 vh [⟨v, true⟩, ⟨0, false⟩] := by rw [← hr2]; exact tx.own
        obtain ⟨av, cv, ev, _⟩ := own.row
        subst ev
        obtain ⟨gh, ch, rfl, _, hh⟩ := own_some oh (show 1 ≤ 2 by decide)
        have t1 := blk_cell tx.at0 (i := 1) rfl
        have v0 := cells_of hh (j := 0) rfl
        have v1 := cells_of hh (j := 1) rfl
        have v2 := cells_of hh (j := 2) rfl
        have v3 := cells_of hh (j := 3) rfl
        have gb := (gob.but.block _ (blk_lt Hb.out.1) (fun h => by rw [Hb.out.2.1] at h; exact AK0 h rfl)).trans Hb.out.1
        have z0 := blk_cell gb (i := 0) rfl
        have z1 := blk_cell gb (i := 1) rfl
        have Hc := hideIt (And.intro Xb (And.intro gb (And.intro ((gob.ext _ (blk_lt Hb.out.1)).trans Hb.out.2.1) (And.intro (Nat.le_trans Hb.out.2.2.1 gob.but.size) (Hb.out.2.2.2.then gob.but (fun k hk h => by
          have h1 := AK0 h
          have h2 := Xb.base k (by rw [gob.ext k (Nat.lt_of_lt_of_le hk Hb.out.2.2.2.size)]; exact h1)
          omega))))))
        clear own oh tx Xb yb gob labb hh hr2 hr3 HTa HWa Hb gb
        dsimp only at v0 v1 v2 v3
        go_wp2_with fail
        go_quiet (fail)
        go_wp2_with fail
        go_roundw
        case rel =>
          obtain ⟨Xb, gb, og, B, a⟩ := Hc.out
          have ad : After wb (wb.drewN nq) := After.rfl.draws nq
          exact ⟨j + 1, ob, by omega, by go_num, Xb.after ad, (ad.block _ (blk_lt gb) (fun t => t)).trans gb, og, Nat.le_trans B ad.size, a.trans ad⟩
        case measure => simp [intOf]; omega
      · have i1 : ¬ (j : Int) < (T : Int) := by omega
        have Hc := hideIt a29
        clear X9 h9 og9 B9 a29
        go_wp2_with fail
        refine (HT.out wr).mono ?_
        rintro e w10 ⟨rfl, hw⟩
        obtain rfl := hw.symm
        go_wp2_with fail
        go_ret
        exact ⟨rfl, A2.out.trans Hc.out⟩
  · have q0 := blk_cell h5 (i := 6) rfl
    have q1 := blk_cell h5 (i := 7) rfl
    have q2 := blk_cell h5 (i := 8) rfl
    obtain ⟨W6, hW6⟩ : ∃ W, W = W5.alloc (.cells #[.int .i64 5, .int .i64 0, .int .i64 0] 67) := ⟨_, rfl⟩
    have h6 : W6.heap[W5.heap.size]? = some (.cells #[.int .i64 5, .int .i64 0, .int .i64 0] 67 (0, 0)) := by rw [hW6]; exact heap_alloc_new W5 _
    obtain ⟨gd, hgd⟩ : ∃ g, g = W5.heap.size := ⟨_, rfl⟩
    rw [← hgd] at h6
    have A6 := hideIt (show After W5 W6 by rw [hW6]; exact After.rfl.alloc _)
    have H6 := hideIt h6
    have HW6 := hideIt hW6
    have HG6 := hideIt hgd
    have g0 := blk_cell h6 (i := 0) rfl
    have g1 := blk_cell h6 (i := 1) rfl
    have g2 := blk_cell h6 (i := 2) rfl
    have lg := blk_lt h6
    have s6 : W6.heap.size = W5.heap.size + 1 := by rw [hW6]; simp
    obtain ⟨W7, hW7⟩ : ∃ W, W = revW W6 #[.int .i64 1, .int .i64 0, .int .i64 0] 1 #[.int .i64 2, .int .i64 0, .int .i64 v, .int .i64 5, .int .i64 0, .int .i64 0, .int .i64 2, .int .i64 0, .int .i64 z] 3 := ⟨_, rfl⟩
    have X := HX.out.1
    have B6 := Nat.le_trans (Nat.le_trans HX.out.2.1.size A5.out.size) A6.out.size
    have X6 := (X.after A5.out).after A6.out
    obtain ⟨o2, X7, y7, r7, a7, he⟩ := rev_lit X6 B6 (D1 := [⟨2, 0, v⟩, ⟨5, 0, 0⟩, ⟨2, 0, z⟩]) (D2 := [⟨1, 0, 0⟩]) rfl rfl rfl rfl hW7
    have og : o2 gd = 0 := by
      rw [he gd (by rw [s6, hgd]; omega)]
      rcases Nat.eq_zero_or_pos (o gd) with e | e
      · exact e
      · have := X.bnd gd (by omega); omega
    have ht := xe_tick (TL := revT W6.heap.size [⟨2, 0, v⟩, ⟨5, 0, 0⟩, ⟨2, 0, z⟩] [⟨1, 0, 0⟩]) (N := 3) (M := 0) (tc := 2) X7 y7 r7 (fun q hq _ => by cases hq; have := X6.op.2; show W6.heap.size + 1 + 1 + 1 + 1 ≠ p; omega) (fun h => by cases h) rfl (fit_two ⟨Nat.le_refl 3, (Kin.cons (show (-9223372036854775808 : Int) ≤ 2 ∧ (2 : Int) ≤ 9223372036854775807 by decide) (Kin.cons (show (-9223372036854775808 : Int) ≤ 5 ∧ (5 : Int) ≤ 9223372036854775807 by decide) (Kin.cons (show (-9223372036854775808 : Int) ≤ 2 ∧ (2 : Int) ≤ 9223372036854775807 by decide) kin_nil)))⟩ ⟨by decide, by decide⟩) (by decide) (by decide) (fun _ => Nat.le_refl _) (Nat.le_trans B6 a7.size)
    have g7 := (a7.block gd (by rw [s6, hgd]; omega) (fun t => t)).trans ((show W6.heap[gd]? = _ from h6))
    have hW7' := hW7
    rw [revW, s6, hW6] at hW7'
    rw [s6] at ht
    have HTk := hideIt ht
    have HG7 := hideIt (And.intro g7 (And.intro og (And.intro (Nat.le_trans B6 a7.size) ((((HX.out.2.1.trans A5.out).trans A6.out).trans a7)))))
    have HW7 := hideIt hW7'
    clear hW6 h6 hgd hW7 hW7' X X6 X7 y7 r7 a7 he og ht g7 B6 s6
    go_wp2_with fail
    rw [← HZ.out]
    refine Eq.mp (congrArg (fun W => Calls _ _ _ W _) (show W7 = _ from HW7.out)) ?_
    refine HTk.out.mono ?_
    rintro e w8 ⟨v8, o8, CV8, rfl, own, X8, y8, go8, lab8⟩
    have hr1 : ((kpX none).run (DSof (revT (W5.heap.size + 1) [⟨2, 0, v⟩, ⟨5, 0, 0⟩, ⟨2, 0, z⟩] [⟨1, 0, 0⟩])) (fun _ => [])).1 = [⟨0, ⟨0, false, true⟩⟩, ⟨1, ⟨0, false, false⟩⟩] := rfl
    have hr2 : ((kpX none).run (DSof (revT (W5.heap.size + 1) [⟨2, 0, v⟩, ⟨5, 0, 0⟩, ⟨2, 0, z⟩] [⟨1, 0, 0⟩])) (fun _ => [])).2.2 1 = [⟨v, true⟩] := rfl
    have hr3 : (⟨[[0, 1]], [3, 0], mkL [(0, 1)], 0⟩ : Xp).tick (DSof (revT (W5.heap.size + 1) [⟨2, 0, v⟩, ⟨5, 0, 0⟩, ⟨2, 0, z⟩] [⟨1, 0, 0⟩])) (fun _ => []) = kpX (some v) := rfl
    have X8' : Xe W2.heap.size w8 p o8 ((⟨[[0, 1]], [3, 0], mkL [(0, 1)], 0⟩ : Xp).tick (DSof (revT (W5.heap.size + 1) [⟨2, 0, v⟩, ⟨5, 0, 0⟩, ⟨2, 0, z⟩] [⟨1, 0, 0⟩])) (fun _ => [])) lv := X8
    rw [hr3] at X8'
    have own1 : ORow anE 48 w8 0 v8 [⟨0, ⟨0, false, true⟩⟩, ⟨1, ⟨0, false, false⟩⟩] := by rw [← hr1]; exact own
    obtain ⟨vh, tx⟩ := y8.tk 1 ⟨W5.heap.size + 1 + 1, some ⟨W5.heap.size + 1, 0, none⟩, 1, [⟨1, 0, 0⟩]⟩ rfl
    have oh : ORow heE 69 w8 0 vh [⟨v, true⟩] := by rw [← hr2]; exact tx.own
    obtain ⟨g, c, rfl, _, hr⟩ := own_some own1 (by decide)
    obtain ⟨gh, ch, rfl, _, hh⟩ := own_some oh (Nat.le_refl 1)
    have t1 := blk_cell tx.at0 (i := 1) rfl
    have u0 := cells_of hr (j := 0) rfl
    have u1 := cells_of hr (j := 1) rfl
    have u2 := cells_of hr (j := 2) rfl
    have u3 := cells_of hr (j := 3) rfl
    have v0 := cells_of hh (j := 0) rfl
    have v1 := cells_of hh (j := 1) rfl
    have g8 := (go8.but.block gd (blk_lt HG7.out.1) (fun h => by rw [HG7.out.2.1] at h; exact AK0 h rfl)).trans HG7.out.1
    have z0 := blk_cell g8 (i := 0) rfl
    have lz := blk_lt g8
    have lt1 := blk_lt tx.at0
    have lu := cell_lt u0
    have lv0 := cell_lt v0
    have H8 := hideIt (And.intro X8' (And.intro g8 (And.intro (Nat.le_trans HG7.out.2.2.1 go8.but.size) (HG7.out.2.2.2.then go8.but (fun k hk h => by
      have h1 := AK0 h
      have h2 := X8.base k (by rw [go8.ext k (Nat.lt_of_lt_of_le hk HG7.out.2.2.2.size)]; exact h1)
      omega)))))
    clear own own1 oh tx X8 X8' y8 go8 lab8 hr hh hr1 hr2 HTk HW7 HG7 g8
    dsimp only at u0 u1 u2 u3 v0 v1
    rw [HG6.out] at z0 lz
    have q1 : (v != v) = false := by simp
    have q2 : (v != v) = false := by simp
    go_wp2_with fail
    go_quiet (fail)
    go_wp2_with fail
    have H9 := hideIt (show (w8.alloc (.cells #[.int .i64 v, .bool true] 69)).heap[w8.heap.size]? = some (.cells #[.int .i64 v, .bool true] 69 (0, 0)) from heap_alloc_new w8 _)
    have a9 := (After.rfl (w := w8)).alloc (.cells #[.int .i64 v, .bool true] 69)
    clear t1 u0 u1 u2 u3 v0 v1 z0 lt1 lu lv0 g0 g1 g2 lg lz h5 hl5 q0
    go_loopw [15] (fun iv wr => ∃ (j : Nat) (o9 : Nat → Nat), j ≤ T ∧ iv = .int .i64 j ∧ Xe W2.heap.size wr p o9 (kpX (some v)) lv ∧ wr.heap[w8.heap.size]? = some (.cells #[.int .i64 v, .bool true] 69 (0, 0)) ∧ o9 w8.heap.size = 0 ∧ W2.heap.size ≤ wr.heap.size ∧ After W2 wr) (fun iv _ => T - (intOf iv).toNat)
    case atStart =>
      have a9' := a9.draws nq
      exact ⟨0, o8, Nat.zero_le _, rfl, H8.out.1.after a9', H9.out, free_of H8.out.1.bnd (Nat.le_refl _), Nat.le_trans H8.out.2.2.1 a9'.size, H8.out.2.2.2.trans a9'⟩
    case round =>
      obtain ⟨j, o9, hj, rfl, X9, h9, og9, B9, a29⟩ := hrel
      clear a9
      by_cases hjT : j < T
      · have i1 : (j : Int) < (T : Int) := by omega
        go_wp2_with fail
        refine (HT.out wr).mono ?_
        rintro e w10 ⟨rfl, hw⟩
        obtain rfl := hw.symm
        obtain ⟨Wa, hWa⟩ : ∃ W, W = oneW wr #[.int .i64 1, .int .i64 0, .int .i64 0, .int .i64 2, .int .i64 0, .int .i64 5] 2 := ⟨_, rfl⟩
        obtain ⟨oa, Xa, ya, ra, aa, hea⟩ := one_lit X9 B9 (D := kpD) rfl rfl hWa
        have hl9 := blk_lt h9
        have ha := xe_tick (TL := oneT wr.heap.size kpD) (N := 2) (M := 0) (tc := 2) Xa ya ra (fun q hq _ => by cases hq; have := X9.op.2; show wr.heap.size + 1 + 1 ≠ p; omega) (fun h => by cases h) rfl (fit_one ⟨by decide, by decide⟩) (by decide) (by decide) (fun _ => Nat.le_refl _) (Nat.le_trans B9 aa.size)
        have HTa := hideIt ha
        have Hb := hideIt (And.intro ((aa.block _ hl9 (fun t => t)).trans h9) (And.intro ((hea _ hl9).trans og9) (And.intro (Nat.le_trans B9 aa.size) (a29.trans aa))))
        have HWa := hideIt hWa
        clear hWa Xa ya ra aa hea ha X9 h9 og9 B9 a29 hl9
        go_wp2_with fail
        refine Eq.mp (congrArg (fun W => Calls _ _ _ W _) (show Wa = _ from HWa.out)) ?_
        refine HTa.out.mono ?_
        rintro e wb ⟨vb, ob, CVb, rfl, own, Xb, yb, gob, labb⟩
        have hr2 : ((kpX (some v)).run (DSof (oneT wr.heap.size kpD)) (fun _ => [])).2.2 1 = [⟨v, true⟩, ⟨0, false⟩] := rfl
        have hr3 : (kpX (some v)).tick (DSof (oneT wr.heap.size kpD)) (fun _ => []) = kpX (some v) := kp_tick _ _
        rw [hr3] at Xb
        obtain ⟨vh, tx⟩ := yb.tk 1 ⟨wr.heap.size + 1, some ⟨wr.heap.size, 0, none⟩, 2, kpD⟩ rfl
        have oh : ORow heE 69 wb 0 vh [⟨v, true⟩, ⟨0, false⟩] := by rw [← hr2]; exact tx.own
        obtain ⟨av, cv, ev, _⟩ := own.row
        subst ev
        obtain ⟨gh, ch, rfl, _, hh⟩ := own_some oh (show 1 ≤ 2 by decide)
        have t1 := blk_cell tx.at0 (i := 1) rfl
        have v0 := cells_of hh (j := 0) rfl
        have v1 := cells_of hh (j := 1) rfl
        have v2 := cells_of hh (j := 2) rfl
        have v3 := cells_of hh (j := 3) rfl
        have gb := (gob.but.block _ (blk_lt Hb.out.1) (fun h => by rw [Hb.out.2.1] at h; exact AK0 h rfl)).trans Hb.out.1
        have z0 := blk_cell gb (i := 0) rfl
        have z1 := blk_cell gb (i := 1) rfl
        have Hc := hideIt (And.intro Xb (And.intro gb (And.intro ((gob.ext _ (blk_lt Hb.out.1)).trans Hb.out.2.1) (And.intro (Nat.le_trans Hb.out.2.2.1 gob.but.size) (Hb.out.2.2.2.then gob.but (fun k hk h => by
          have h1 := AK0 h
          have h2 := Xb.base k (by rw [gob.ext k (Nat.lt_of_lt_of_le hk Hb.out.2.2.2.size)]; exact h1)
          omega))))))
        clear own oh tx Xb yb gob labb hh hr2 hr3 HTa HWa Hb gb
        dsimp only at v0 v1 v2 v3
        go_wp2_with fail
        go_quiet (fail)
        go_wp2_with fail
        go_roundw
        case rel =>
          obtain ⟨Xb, gb, og, B, a⟩ := Hc.out
          have ad : After wb (wb.drewN nq) := After.rfl.draws nq
          exact ⟨j + 1, ob, by omega, by go_num, Xb.after ad, (ad.block _ (blk_lt gb) (fun t => t)).trans gb, og, Nat.le_trans B ad.size, a.trans ad⟩
        case measure => simp [intOf]; omega
      · have i1 : ¬ (j : Int) < (T : Int) := by omega
        have Hc := hideIt a29
        clear X9 h9 og9 B9 a29
        go_wp2_with fail
        refine (HT.out wr).mono ?_
        rintro e w10 ⟨rfl, hw⟩
        obtain rfl := hw.symm
        go_wp2_with fail
        go_ret
        exact ⟨rfl, A2.out.trans Hc.out⟩
  · have q0 := blk_cell h5 (i := 9) rfl
    have q1 := blk_cell h5 (i := 10) rfl
    have q2 := blk_cell h5 (i := 11) rfl
    obtain ⟨W6, hW6⟩ : ∃ W, W = W5.alloc (.cells #[.int .i64 9, .int .i64 0, .int .i64 0] 67) := ⟨_, rfl⟩
    have h6 : W6.heap[W5.heap.size]? = some (.cells #[.int .i64 9, .int .i64 0, .int .i64 0] 67 (0, 0)) := by rw [hW6]; exact heap_alloc_new W5 _
    obtain ⟨gd, hgd⟩ : ∃ g, g = W5.heap.size := ⟨_, rfl⟩
    rw [← hgd] at h6
    have A6 := hideIt (show After W5 W6 by rw [hW6]; exact After.rfl.alloc _)
    have H6 := hideIt h6
    have HW6 := hideIt hW6
    have HG6 := hideIt hgd
    have g0 := blk_cell h6 (i := 0) rfl
    have g1 := blk_cell h6 (i := 1) rfl
    have g2 := blk_cell h6 (i := 2) rfl
    have lg := blk_lt h6
    have s6 : W6.heap.size = W5.heap.size + 1 := by rw [hW6]; simp
    obtain ⟨W7, hW7⟩ : ∃ W, W = revW W6 #[.int .i64 1, .int .i64 0, .int .i64 0] 1 #[.int .i64 2, .int .i64 0, .int .i64 v, .int .i64 9, .int .i64 0, .int .i64 0, .int .i64 2, .int .i64 0, .int .i64 z] 3 := ⟨_, rfl⟩
    have X := HX.out.1
    have B6 := Nat.le_trans (Nat.le_trans HX.out.2.1.size A5.out.size) A6.out.size
    have X6 := (X.after A5.out).after A6.out
    obtain ⟨o2, X7, y7, r7, a7, he⟩ := rev_lit X6 B6 (D1 := [⟨2, 0, v⟩, ⟨9, 0, 0⟩, ⟨2, 0, z⟩]) (D2 := [⟨1, 0, 0⟩]) rfl rfl rfl rfl hW7
    have og : o2 gd = 0 := by
      rw [he gd (by rw [s6, hgd]; omega)]
      rcases Nat.eq_zero_or_pos (o gd) with e | e
      · exact e
      · have := X.bnd gd (by omega); omega
    have ht := xe_tick (TL := revT W6.heap.size [⟨2, 0, v⟩, ⟨9, 0, 0⟩, ⟨2, 0, z⟩] [⟨1, 0, 0⟩]) (N := 3) (M := 0) (tc := 2) X7 y7 r7 (fun q hq _ => by cases hq; have := X6.op.2; show W6.heap.size + 1 + 1 + 1 + 1 ≠ p; omega) (fun h => by cases h) rfl (fit_two ⟨Nat.le_refl 3, (Kin.cons (show (-9223372036854775808 : Int) ≤ 2 ∧ (2 : Int) ≤ 9223372036854775807 by decide) (Kin.cons (show (-9223372036854775808 : Int) ≤ 9 ∧ (9 : Int) ≤ 9223372036854775807 by decide) (Kin.cons (show (-9223372036854775808 : Int) ≤ 2 ∧ (2 : Int) ≤ 9223372036854775807 by decide) kin_nil)))⟩ ⟨by decide, by decide⟩) (by decide) (by decide) (fun _ => Nat.le_refl _) (Nat.le_trans B6 a7.size)
    have g7 := (a7.block gd (by rw [s6, hgd]; omega) (fun t => t)).trans ((show W6.heap[gd]? = _ from h6))
    have hW7' := hW7
    rw [revW, s6, hW6] at hW7'
    rw [s6] at ht
    have HTk := hideIt ht
    have HG7 := hideIt (And.intro g7 (And.intro og (And.intro (Nat.le_trans B6 a7.size) ((((HX.out.2.1.trans A5.out).trans A6.out).trans a7)))))
    have HW7 := hideIt hW7'
    clear hW6 h6 hgd hW7 hW7' X X6 X7 y7 r7 a7 he og ht g7 B6 s6
    go_wp2_with fail
    rw [← HZ.out]
    refine Eq.mp (congrArg (fun W => Calls _ _ _ W _) (show W7 = _ from HW7.out)) ?_
    refine HTk.out.mono ?_
    rintro e w8 ⟨v8, o8, CV8, rfl, own, X8, y8, go8, lab8⟩
    have hr1 : ((kpX none).run (DSof (revT (W5.heap.size + 1) [⟨2, 0, v⟩, ⟨9, 0, 0⟩, ⟨2, 0, z⟩] [⟨1, 0, 0⟩])) (fun _ => [])).1 = [⟨0, ⟨0, false, false⟩⟩, ⟨1, ⟨0, false, false⟩⟩] := rfl
    have hr2 : ((kpX none).run (DSof (revT (W5.heap.size + 1) [⟨2, 0, v⟩, ⟨9, 0, 0⟩, ⟨2, 0, z⟩] [⟨1, 0, 0⟩])) (fun _ => [])).2.2 1 = [⟨z, true⟩] := rfl
    have hr3 : (⟨[[0, 1]], [3, 0], mkL [(0, 1)], 0⟩ : Xp).tick (DSof (revT (W5.heap.size + 1) [⟨2, 0, v⟩, ⟨9, 0, 0⟩, ⟨2, 0, z⟩] [⟨1, 0, 0⟩])) (fun _ => []) = kpX (some z) := rfl
    have X8' : Xe W2.heap.size w8 p o8 ((⟨[[0, 1]], [3, 0], mkL [(0, 1)], 0⟩ : Xp).tick (DSof (revT (W5.heap.size + 1) [⟨2, 0, v⟩, ⟨9, 0, 0⟩, ⟨2, 0, z⟩] [⟨1, 0, 0⟩])) (fun _ => [])) lv := X8
    rw [hr3] at X8'
    have own1 : ORow anE 48 w8 0 v8 [⟨0, ⟨0, false, false⟩⟩, ⟨1, ⟨0, false, false⟩⟩] := by rw [← hr1]; exact own
    obtain ⟨vh, tx⟩ := y8.tk 1 ⟨W5.heap.size + 1 + 1, some ⟨W5.heap.size + 1, 0, none⟩, 1, [⟨1, 0, 0⟩]⟩ rfl
    have oh : ORow heE 69 w8 0 vh [⟨z, true⟩] := by rw [← hr2]; exact tx.own
    obtain ⟨g, c, rfl, _, hr⟩ := own_some own1 (by decide)
    obtain ⟨gh, ch, rfl, _, hh⟩ := own_some oh (Nat.le_refl 1)
    have t1 := blk_cell tx.at0 (i := 1) rfl
    have u0 := cells_of hr (j := 0) rfl
    have u1 := cells_of hr (j := 1) rfl
    have u2 := cells_of hr (j := 2) rfl
    have u3 := cells_of hr (j := 3) rfl
    have v0 := cells_of hh (j := 0) rfl
    have v1 := cells_of hh (j := 1) rfl
    have g8 := (go8.but.block gd (blk_lt HG7.out.1) (fun h => by rw [HG7.out.2.1] at h; exact AK0 h rfl)).trans HG7.out.1
    have z0 := blk_cell g8 (i := 0) rfl
    have lz := blk_lt g8
    have lt1 := blk_lt tx.at0
    have lu := cell_lt u0
    have lv0 := cell_lt v0
    have H8 := hideIt (And.intro X8' (And.intro g8 (And.intro (Nat.le_trans HG7.out.2.2.1 go8.but.size) (HG7.out.2.2.2.then go8.but (fun k hk h => by
      have h1 := AK0 h
      have h2 := X8.base k (by rw [go8.ext k (Nat.lt_of_lt_of_le hk HG7.out.2.2.2.size)]; exact h1)
      omega)))))
    clear own own1 oh tx X8 X8' y8 go8 lab8 hr hh hr1 hr2 HTk HW7 HG7 g8
    dsimp only at u0 u1 u2 u3 v0 v1
    rw [HG6.out] at z0 lz
    have q1 : (v != v) = false := by simp
    have q2 : (z != z) = false := by simp
    go_wp2_with fail
    rw [← HZ.out]
    go_quiet (fail)
    go_wp2_with fail
    have H9 := hideIt (show (w8.alloc (.cells #[.int .i64 z, .bool true] 69)).heap[w8.heap.size]? = some (.cells #[.int .i64 z, .bool true] 69 (0, 0)) from heap_alloc_new w8 _)
    have a9 := (After.rfl (w := w8)).alloc (.cells #[.int .i64 z, .bool true] 69)
    clear t1 u0 u1 u2 u3 v0 v1 z0 lt1 lu lv0 g0 g1 g2 lg lz h5 hl5 q0
    go_loopw [15] (fun iv wr => ∃ (j : Nat) (o9 : Nat → Nat), j ≤ T ∧ iv = .int .i64 j ∧ Xe W2.heap.size wr p o9 (kpX (some z)) lv ∧ wr.heap[w8.heap.size]? = some (.cells #[.int .i64 z, .bool true] 69 (0, 0)) ∧ o9 w8.heap.size = 0 ∧ W2.heap.size ≤ wr.heap.size ∧ After W2 wr) (fun iv _ => T - (intOf iv).toNat)
    case atStart =>
      have a9' := a9.draws nq
      exact ⟨0, o8, Nat.zero_le _, rfl, H8.out.1.after a9', H9.out, free_of H8.out.1.bnd (Nat.le_refl _), Nat.le_trans H8.out.2.2.1 a9'.size, H8.out.2.2.2.trans a9'⟩
    case round =>
      obtain ⟨j, o9, hj, rfl, X9, h9, og9, B9, a29⟩ := hrel
      clear a9
      by_cases hjT : j < T
      · have i1 : (j : Int) < (T : Int) := by omega
        go_wp2_with fail
        refine (HT.out wr).mono ?_
        rintro e w10 ⟨rfl, hw⟩
        obtain rfl := hw.symm
        obtain ⟨Wa, hWa⟩ : ∃ W, W = oneW wr #[.int .i64 1, .int .i64 0, .int .i64 0, .int .i64 2, .int .i64 0, .int .i64 5] 2 := ⟨_, rfl⟩
        obtain ⟨oa, Xa, ya, ra, aa, hea⟩ := one_lit X9 B9 (D := kpD) rfl rfl hWa
        have hl9 := blk_lt h9
        have ha := xe_tick (TL := oneT wr.heap.size kpD) (N := 2) (M := 0) (tc := 2) Xa ya ra (fun q hq _ => by cases hq; have := X9.op.2; show wr.heap.size + 1 + 1 ≠ p; omega) (fun h => by cases h) rfl (fit_one ⟨by decide, by decide⟩) (by decide) (by decide) (fun _ => Nat.le_refl _) (Nat.le_trans B9 aa.size)
        have HTa := hideIt ha
        have Hb := hideIt (And.intro ((aa.block _ hl9 (fun t => t)).trans h9) (And.intro ((hea _ hl9).trans og9) (And.intro (Nat.le_trans B9 aa.size) (a29.trans aa))))
        have HWa := hideIt hWa
        clear hWa Xa ya ra aa hea ha X9 h9 og9 B9 a29 hl9
        go_wp2_with fail
        refine Eq.mp (congrArg (fun W => Calls _ _ _ W _) (show Wa = _ from HWa.out)) ?_
        refine HTa.out.mono ?_
        rintro e wb ⟨vb, ob, CVb, rfl, own, Xb, yb, gob, labb⟩
        have hr2 : ((kpX (some z)).run (DSof (oneT wr.heap.size kpD)) (fun _ => [])).2.2 1 = [⟨z, true⟩, ⟨0, false⟩] := rfl
        have hr3 : (kpX (some z)).tick (DSof (oneT wr.heap.size kpD)) (fun _ => []) = kpX (some z) := kp_tick _ _
        rw [hr3] at Xb
        obtain ⟨vh, tx⟩ := yb.tk 1 ⟨wr.heap.size + 1, some ⟨wr.heap.size, 0, none⟩, 2, kpD⟩ rfl
        have oh : ORow heE 69 wb 0 vh [⟨z, true⟩, ⟨0, false⟩] := by rw [← hr2]; exact tx.own
        obtain ⟨av, cv, ev, _⟩ := own.row
        subst ev
        obtain ⟨gh, ch, rfl, _, hh⟩ := own_some oh (show 1 ≤ 2 by decide)
        have t1 := blk_cell tx.at0 (i := 1) rfl
        have v0 := cells_of hh (j := 0) rfl
        have v1 := cells_of hh (j := 1) rfl
        have v2 := cells_of hh (j := 2) rfl
        have v3 := cells_of hh (j := 3) rfl
        have gb := (gob.but.block _ (blk_lt Hb.out.1) (fun h => by rw [Hb.out.2.1] at h; exact AK0 h rfl)).trans Hb.out.1
        have z0 := blk_cell gb (i := 0) rfl
        have z1 := blk_cell gb (i := 1) rfl
        have Hc := hideIt (And.intro Xb (And.intro gb (And.intro ((gob.ext _ (blk_lt Hb.out.1)).trans Hb.out.2.1) (And.intro (Nat.le_trans Hb.out.2.2.1 gob.but.size) (Hb.out.2.2.2.then gob.but (fun k hk h => by
          have h1 := AK0 h
          have h2 := Xb.base k (by rw [gob.ext k (Nat.lt_of_lt_of_le hk Hb.out.2.2.2.size)]; exact h1)
          omega))))))
        clear own oh tx Xb yb gob labb hh hr2 hr3 HTa HWa Hb gb
        dsimp only at v0 v1 v2 v3
        go_wp2_with fail
        go_quiet (fail)
        go_wp2_with fail
        go_roundw
        case rel =>
          obtain ⟨Xb, gb, og, B, a⟩ := Hc.out
          have ad : After wb (wb.drewN nq) := After.rfl.draws nq
          exact ⟨j + 1, ob, by omega, by go_num, Xb.after ad, (ad.block _ (blk_lt gb) (fun t => t)).trans gb, og, Nat.le_trans B ad.size, a.trans ad⟩
        case measure => simp [intOf]; omega
      · have i1 : ¬ (j : Int) < (T : Int) := by omega
        have Hc := hideIt a29
        clear X9 h9 og9 B9 a29
        go_wp2_with fail
        refine (HT.out wr).mono ?_
        rintro e w10 ⟨rfl, hw⟩
        obtain rfl := hw.symm
        go_wp2_with fail
        go_ret
        exact ⟨rfl, A2.out.trans Hc.out⟩
end Go.Proofs.Ytkjjjibglaffnaa
