/-
  awake: the chapter's first tick.
-/
import Derived.Test.YtkjjjibglaffnaaExT
import Derived.Test.YtkjjjibglaffnaaAlT
namespace Go.Proofs.Ytkjjjibglaffnaa
open Go.RowKit
set_option maxRecDepth 8000
theorem an_at {w : World} {a : Option Addr} {n : Nat} {xs : List An} (h : GRow anE w a n xs) {i : Nat} (hi : i < n) : ∃ b off x, a = some ⟨b, off, none⟩ ∧ b < w.heap.size ∧ xs[i]? = some x ∧ w.cell? ⟨b, off + i * 4, none⟩ = some (.int .i64 x.p) ∧ w.cell? ⟨b, off + i * 4 + 1, none⟩ = some (.int .i64 x.t.u) ∧ w.cell? ⟨b, off + i * 4 + 2, none⟩ = some (.bool x.t.ov) ∧ w.cell? ⟨b, off + i * 4 + 3, none⟩ = some (.bool x.t.fa) := by
  obtain ⟨b, off, x, e, hb, hx, h1⟩ := h.2 i hi
  exact ⟨b, off, x, e, hb, hx, h1 0 _ rfl, h1 1 _ rfl, h1 2 _ rfl, h1 3 _ rfl⟩
/-- New makes an exec. -/
def NewXe (w : World) (fr : List (List Int)) (st : List Int) (lk : List (Int × Int)) (e : Ending) (w' : World) : Prop := ∃ p o lv, e = .returned (.tuple #[Ptr p, .int .i64 0]) ∧ Xe w.heap.size w' p o ⟨fr, st, mkL lk, 0⟩ lv ∧ After w w' ∧ w.heap.size ≤ p
theorem new_xe {w0 : World} {fa : Option Addr} {fn fc : Nat} {fs0 : List Fw} {sa : Option Addr} {sn sc : Nat} {st : List Int} {la : Option Addr} {ln lc : Nat} {lk : List (Int × Int)} (e1 : fs0.length = fn) (e2 : st.length = sn) (e3 : lk.length = ln) (hf : GRow fwE w0 fa fn fs0) (hfw : ∀ f ∈ fs0, GRow inE w0 f.a f.l.length f.l ∧ (f.a = none → f.l.length = 0 ∧ f.c = 0) ∧ f.l.length ≤ 1000) (hs : GRow inE w0 sa sn st) (hsn : sa = none → st.length = 0 ∧ sc = 0) (hl : GRow prE w0 la ln lk) (hok : chkT (fs0.map Fw.l) st lk = 0) :
    Calls Try.prog 9 #[.slice fa fn fc, .slice sa sn sc, .slice la ln lc] w0 (NewXe w0 (fs0.map Fw.l) st lk) := by
  subst e1
  subst e2
  subst e3
  have ok := chk_ok hok
  refine (new_ok (fc := fc) (sc := sc) (lc := lc) hf hfw hs hsn hl (by have := ok.f2; simpa using this) ok.s2 (by have := ok.l2; simpa [mkL] using this) hok).mono ?_
  intro e w' h
  exact made_xe h hok
/-- A task more, beside its exec. -/
theorem Xe.lit {B : Nat} {w : World} {p : Nat} {o : Nat → Nat} {x : Xp} {lv : Value} (X : Xe B w p o x lv) {L : List Lk} {TL : List (Option Tk)} {HS : Nat → List He} {CV : Nat → Value} (y : Sy w o lv L TL HS CV) (hB : B ≤ w.heap.size) {cs : Array Value} {D : List De} (hcs : cs.toList = deE.flat D) {W : World} (hW : W = (w.alloc (.cells cs 67)).alloc (.cells #[.slice (some ⟨w.heap.size, 0, none⟩) D.length D.length, .slice none 0 0, .pointer none] 63)) :
    Xe B W p (upd o (w.heap.size + 1) (10 + 2 * TL.length)) x lv ∧ Sy W (upd o (w.heap.size + 1) (10 + 2 * TL.length)) lv L (TL ++ [some ⟨w.heap.size + 1, some ⟨w.heap.size, 0, none⟩, D.length, D⟩]) (setf HS TL.length []) (setf CV TL.length (.pointer none)) ∧ After w W ∧ W.heap.size = w.heap.size + 2 := by
  obtain ⟨y1, a1, s1⟩ := y.lit hcs hW
  exact ⟨X.go hB a1 (fun _ _ t => t.elim) (fun q hq => upd_ne _ _ (by omega)) y1.bnd, y1, a1, s1⟩
def aD1 : List De := [⟨0, 2, 0⟩, ⟨2, 0, 7⟩]
def aD2 : List De := [⟨1, 0, 0⟩, ⟨0, 7, 0⟩]
def usX : Xp := ⟨[[0, 1], [1]], [5, 3], mkL [(0, 1)], 0⟩
theorem cells_of {α : Type} {E : Enc α} {w : World} {g n : Nat} {xs : List α} (h : GRow E w (some ⟨g, 0, none⟩) n xs) {j : Nat} {u : Value} (hj : (E.flat xs)[j]? = some u) : w.cell? ⟨g, j, none⟩ = some u := by
  have := h.news j u hj
  rw [add_off, Nat.zero_add] at this
  exact this
/-- Two literal tasks, and their list. -/
def twoW (w : World) (c1 : Array Value) (n1 : Nat) (c2 : Array Value) (n2 : Nat) : World :=
  ((((w.alloc (.cells c1 67)).alloc (.cells #[.slice (some ⟨w.heap.size, 0, none⟩) n1 n1, .slice none 0 0, .pointer none] 63)).alloc (.cells c2 67)).alloc (.cells #[.slice (some ⟨w.heap.size + 1 + 1, 0, none⟩) n2 n2, .slice none 0 0, .pointer none] 63)).alloc (.cells #[.iface 58 (Ptr (w.heap.size + 1)), .iface 58 (Ptr (w.heap.size + 1 + 1 + 1))] 97)
def twoT (n : Nat) (D1 D2 : List De) : List (Option Tk) := [some ⟨n + 1, some ⟨n, 0, none⟩, D1.length, D1⟩, some ⟨n + 1 + 1 + 1, some ⟨n + 1 + 1, 0, none⟩, D2.length, D2⟩]
theorem two_lit {B : Nat} {w : World} {p : Nat} {o : Nat → Nat} {x : Xp} {lv : Value} (X : Xe B w p o x lv) (hB : B ≤ w.heap.size) {c1 c2 : Array Value} {D1 D2 : List De} {n1 n2 : Nat} (h1 : c1.toList = deE.flat D1) (h2 : c2.toList = deE.flat D2) (e1 : n1 = D1.length) (e2 : n2 = D2.length) {W : World} (hW : W = twoW w c1 n1 c2 n2) :
    ∃ o', Xe B W p o' x lv ∧ Sy W o' lv x.L (twoT w.heap.size D1 D2) (fun _ => []) (fun _ => .pointer none) ∧ GRow ivE W (some ⟨w.heap.size + 1 + 1 + 1 + 1, 0, none⟩) 2 ((twoT w.heap.size D1 D2).map ivOf) ∧ After w W := by
  subst e1
  subst e2
  obtain ⟨W5, hW5⟩ : ∃ W, W = (w.alloc (.cells c1 67)).alloc (.cells #[.slice (some ⟨w.heap.size, 0, none⟩) D1.length D1.length, .slice none 0 0, .pointer none] 63) := ⟨_, rfl⟩
  obtain ⟨X5, y5, a5, s5⟩ := X.lit X.sy hB h1 hW5
  obtain ⟨W6, hW6⟩ : ∃ W, W = (W5.alloc (.cells c2 67)).alloc (.cells #[.slice (some ⟨W5.heap.size, 0, none⟩) D2.length D2.length, .slice none 0 0, .pointer none] 63) := ⟨_, rfl⟩
  obtain ⟨X6, y6, a6, s6⟩ := X5.lit y5 (Nat.le_trans hB a5.size) h2 hW6
  rw [s5] at s6 X6 y6
  have hW' : W = W6.alloc (.cells #[.iface 58 (Ptr (w.heap.size + 1)), .iface 58 (Ptr (w.heap.size + 1 + 1 + 1))] 97) := by rw [hW, hW6, s5, hW5]; rfl
  have a7 : After W6 W := by rw [hW']; exact After.rfl.alloc _
  have hb7 : W.heap[w.heap.size + 1 + 1 + 1 + 1]? = some (.cells #[.iface 58 (Ptr (w.heap.size + 1)), .iface 58 (Ptr (w.heap.size + 1 + 1 + 1))] 97 (0, 0)) := by
    rw [hW']
    have := heap_alloc_new W6 (.cells #[.iface 58 (Ptr (w.heap.size + 1)), .iface 58 (Ptr (w.heap.size + 1 + 1 + 1))] 97)
    rw [s6] at this
    exact this
  have ec : setf (setf (fun _ => ([] : List He)) 0 []) 1 [] = fun _ => [] := by rw [setf_same (fun _ => ([] : List He)) 0, setf_same (fun _ => ([] : List He)) 1]
  have ev : setf (setf (fun _ => Value.pointer none) 0 (.pointer none)) 1 (.pointer none) = fun _ => Value.pointer none := by rw [setf_same (fun _ => Value.pointer none) 0, setf_same (fun _ => Value.pointer none) 1]
  have y7 := y6.after a7
  have y8 : Sy W _ lv x.L (twoT w.heap.size D1 D2) (setf (setf (fun _ => ([] : List He)) 0 []) 1 []) (setf (setf (fun _ => Value.pointer none) 0 (.pointer none)) 1 (.pointer none)) := y7
  rw [ec, ev] at y8
  exact ⟨_, X6.after a7, y8, lit_row hb7 rfl rfl, (a5.trans a6).trans a7⟩
theorem two_tick {B : Nat} {W : World} {p : Nat} {o : Nat → Nat} {x : Xp} {lv : Value} (X : Xe B W p o x lv) {n : Nat} {D1 D2 : List De} (y : Sy W o lv x.L (twoT n D1 D2) (fun _ => []) (fun _ => .pointer none)) (ht : GRow ivE W (some ⟨n + 1 + 1 + 1 + 1, 0, none⟩) 2 ((twoT n D1 D2).map ivOf)) (hp : p < n) (hB : B ≤ W.heap.size) (hs : x.st.length = 2) {N : Nat} (hf : Fit (twoT n D1 D2) N) (hN : N ≤ 4000000) :
    Calls Try.prog 14 #[Ptr p, .slice (some ⟨n + 1 + 1 + 1 + 1, 0, none⟩) 2 2] W (Ticked B W p o x lv (twoT n D1 D2) (fun _ => [])) :=
  xe_tick (TL := twoT n D1 D2) (M := 0) (tc := 2) X y ht (fun z hz _ => by cases hz; show n + 1 + 1 + 1 + 1 ≠ p; omega) (fun h => by cases h) hs.symm hf hN (by decide) (fun _ => Nat.le_refl _) hB
theorem fit_two {t1 t2 : Nat} {a1 a2 : Option Addr} {c1 c2 : Nat} {D1 D2 : List De} {N : Nat} (h1 : D1.length ≤ N ∧ ∀ d ∈ D1, -9223372036854775808 ≤ d.k ∧ d.k ≤ 9223372036854775807) (h2 : D2.length ≤ N ∧ ∀ d ∈ D2, -9223372036854775808 ≤ d.k ∧ d.k ≤ 9223372036854775807) : Fit [some ⟨t1, a1, c1, D1⟩, some ⟨t2, a2, c2, D2⟩] N := by
  intro i k hk
  match i, hk with
  | 0, hk => simp at hk; subst hk; exact h1
  | 1, hk => simp at hk; subst hk; exact h2
  | i + 2, hk => rw [List.getElem?_eq_none (by simp)] at hk; cases hk
theorem AK0 {l : Nat} (h : AK l) : l ≠ 0 := by
  unfold AK AS at h
  omega
set_option maxHeartbeats 2000000 in
theorem awake_any (w : World) : Calls Try.prog 12 #[] w fun e w' => e = .returned (.bool true) ∧ After w w' := by
  have hf0 : ∀ (a b c : Value) (w : World), (Instr.field 26 (.agg #[a, b, c]) 0).run Try.prog w = .ok a w := fun a b c w => by kernel_rfl
  have hf1 : ∀ (a b c : Value) (w : World), (Instr.field 26 (.agg #[a, b, c]) 1).run Try.prog w = .ok b w := fun a b c w => by kernel_rfl
  have hf2 : ∀ (a b c : Value) (w : World), (Instr.field 26 (.agg #[a, b, c]) 2).run Try.prog w = .ok c w := fun a b c w => by kernel_rfl
  go_enter Try.func12, Try.ntmps12
  go_wp2_with fail
  refine (usual_any _).mono ?_
  rintro e w1 ⟨g1, g2, g3, g4, g5, rfl, r1, r2, r3, r4, r5, a1⟩
  have H1 := hideIt (And.intro r1 (And.intro r2 (And.intro r3 a1)))
  clear r1 r2 r3 r4 r5 a1
  go_wp2_with fail
  refine (usual_any _).mono ?_
  rintro e w2 ⟨k1, k2, k3, k4, k5, rfl, r1, r2, r3, r4, r5, a2⟩
  have H2 := hideIt (And.intro r4 a2)
  clear r1 r2 r3 r4 r5 a2
  go_wp2_with fail
  refine (usual_any _).mono ?_
  rintro e w3 ⟨m1, m2, m3, m4, m5, rfl, r1, r2, r3, r4, r5, a3⟩
  have H3 := hideIt (And.intro r5 a3)
  clear r1 r2 r3 r4 r5 a3
  have a13 := H2.out.2.trans H3.out.2
  have HN := hideIt (new_xe (w0 := w3) (fa := some ⟨g3, 0, none⟩) (fn := 2) (fc := 2) (fs0 := [⟨some ⟨g1, 0, none⟩, 2, [0, 1]⟩, ⟨some ⟨g2, 0, none⟩, 1, [1]⟩]) (sa := some ⟨k4, 0, none⟩) (sn := 2) (sc := 2) (st := [5, 3]) (la := some ⟨m5, 0, none⟩) (ln := 1) (lc := 1) (lk := [(0, 1)]) rfl rfl rfl (H1.out.2.2.1.after a13) (fun f hf => by
    rcases List.mem_cons.1 hf with rfl | hf
    · exact ⟨H1.out.1.after a13, (fun h => by cases h), show (2 : Nat) ≤ 1000 by decide⟩
    · rw [List.mem_singleton] at hf
      subst hf
      exact ⟨H1.out.2.1.after a13, (fun h => by cases h), show (1 : Nat) ≤ 1000 by decide⟩) (H2.out.1.after H3.out.2) (fun h => by cases h) H3.out.1 (show chkT [[0, 1], [1]] [5, 3] [(0, 1)] = 0 by decide))
  have A3 := hideIt (H1.out.2.2.2.trans a13)
  clear a13 H1 H2 H3
  go_wp2_with fail
  refine HN.out.mono ?_
  rintro e w4 ⟨p, o, lv, rfl, X, af4, hp⟩
  obtain ⟨W, hW⟩ : ∃ W, W = twoW w4 #[.int .i64 0, .int .i64 2, .int .i64 0, .int .i64 2, .int .i64 0, .int .i64 7] 2 #[.int .i64 1, .int .i64 0, .int .i64 0, .int .i64 0, .int .i64 7, .int .i64 0] 2 := ⟨_, rfl⟩
  obtain ⟨o2, X2, y2, r2, a2⟩ := two_lit X af4.size (D1 := aD1) (D2 := aD2) rfl rfl rfl rfl hW
  have HT := hideIt (two_tick (N := 2) X2 y2 r2 (by have := X.op.2; omega) (Nat.le_trans af4.size a2.size) rfl (fit_two ⟨by decide, by decide⟩ ⟨by decide, by decide⟩) (by decide))
  have HA := hideIt ((A3.out.trans af4).trans a2)
  have HW := hideIt hW
  have HB := hideIt (Nat.le_trans af4.size a2.size)
  have hB0 := hideIt (show w.heap.size ≤ w3.heap.size from A3.out.size)
  clear hW X X2 y2 r2 a2 af4 hp HN A3
  go_wp2_with fail
  refine Eq.mp (congrArg (fun W => Calls _ _ _ W _) (show W = _ from HW.out)) ?_
  refine HT.out.mono ?_
  rintro e w5 ⟨v, o', CV', rfl, own, X', y', go, lab⟩
  have hr1 : (usX.run (DSof (twoT w4.heap.size aD1 aD2)) (fun _ => [])).1 = [⟨0, ⟨2, false, false⟩⟩, ⟨1, ⟨0, true, false⟩⟩] := rfl
  have hr2 : (usX.run (DSof (twoT w4.heap.size aD1 aD2)) (fun _ => [])).2.2 1 = [⟨7, true⟩, ⟨0, false⟩] := rfl
  have own1 : ORow anE 48 w5 0 v [⟨0, ⟨2, false, false⟩⟩, ⟨1, ⟨0, true, false⟩⟩] := by rw [← hr1]; exact own
  obtain ⟨vh, tx⟩ := y'.tk 1 ⟨w4.heap.size + 1 + 1 + 1, some ⟨w4.heap.size + 1 + 1, 0, none⟩, aD2.length, aD2⟩ rfl
  have oh : ORow heE 69 w5 0 vh [⟨7, true⟩, ⟨0, false⟩] := by rw [← hr2]; exact tx.own
  obtain ⟨g, c, rfl, _, hr⟩ := own_some own1 (by decide)
  obtain ⟨gh, ch, rfl, _, hh⟩ := own_some oh (by decide)
  have t1 := blk_cell tx.at0 (i := 1) rfl
  have u0 := cells_of hr (j := 0) rfl
  have u1 := cells_of hr (j := 1) rfl
  have u2 := cells_of hr (j := 2) rfl
  have u3 := cells_of hr (j := 3) rfl
  have u4 := cells_of hr (j := 4) rfl
  have u5 := cells_of hr (j := 5) rfl
  have u6 := cells_of hr (j := 6) rfl
  have u7 := cells_of hr (j := 7) rfl
  have v0 := cells_of hh (j := 0) rfl
  have v1 := cells_of hh (j := 1) rfl
  have v2 := cells_of hh (j := 2) rfl
  have v3 := cells_of hh (j := 3) rfl
  have HG := hideIt (HA.out.then go.but (fun k hk t => by
    have h1 := AK0 t
    have := X'.base k (by rw [go.ext k (Nat.lt_of_lt_of_le hk HA.out.size)]; exact h1)
    have := hB0.out
    omega))
  clear own own1 oh tx X' y' go lab hr hh hr1 hr2 HT HA HW HB
  dsimp only at t1 u0 u1 u2 u3 u4 u5 u6 u7 v0 v1 v2 v3
  go_wp2_with fail
  go_ret
  exact ⟨rfl, HG.out⟩
end Go.Proofs.Ytkjjjibglaffnaa
