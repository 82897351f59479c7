/-
  The walk of RealKnown, its beginning: the kinds.
-/
import Derived.Test.YtjblckljbgelaabWorks
import Derived.Test.YtjblckljbgelaabRefFlo
import Derived.Test.YtjblckljbgelaabEqInts
import Derived.Laws.OwnMore
import Derived.Deep.RegionHeld3
import Derived.Deep.DrawnRows
namespace Go.Proofs.Ytjblckljbgelaab
open Go.RowKit
attribute [local go_sem ↓] Go.wp_at_zero Go.wp_at_succ

theorem s2047 : shK 2047 = 1 ∧ shM 2047 = 0 ∧ shE 2047 = 0 := by decide
theorem s2048 : shK 2048 = 2 ∧ shM 2048 = 0 ∧ shE 2048 = 0 := by decide
theorem s2046 : shK 2046 = 3 ∧ shM 2046 = 0 ∧ shE 2046 = 0 := by decide
theorem s2050 : shK 2050 = 4 ∧ shM 2050 = 0 ∧ shE 2050 = 0 := by decide
theorem s2049 : shK 2049 = 5 ∧ shM 2049 = 0 ∧ shE 2049 = 0 := by decide
theorem s6143 : shK 6143 = 5 ∧ shM 6143 = 0 ∧ shE 6143 = 0 := by decide
theorem l8388607 : loK 8388607 = 1 ∧ loM 8388607 = 0 ∧ loE 8388607 = 0 := by decide
theorem l8388608 : loK 8388608 = 2 ∧ loM 8388608 = 0 ∧ loE 8388608 = 0 := by decide
theorem l8388606 : loK 8388606 = 3 ∧ loM 8388606 = 0 ∧ loE 8388606 = 0 := by decide
theorem l8388610 : loK 8388610 = 4 ∧ loM 8388610 = 0 ∧ loE 8388610 = 0 := by decide
theorem l8388609 : loK 8388609 = 5 ∧ loM 8388609 = 0 ∧ loE 8388609 = 0 := by decide
theorem l2155872256 : loK 2155872256 = 5 ∧ loM 2155872256 = 0 ∧ loE 2155872256 = 0 := by decide
def kX (w : World) : World := (w.alloc (.cells #[.int .i64 1, .int .i64 0, .int .i64 0, .int .i64 2, .int .i64 0, .int .i64 0, .int .i64 3, .int .i64 0, .int .i64 0, .int .i64 4, .int .i64 0, .int .i64 0, .int .i64 5, .int .i64 0, .int .i64 0, .int .i64 5, .int .i64 0, .int .i64 0, .int .i64 1, .int .i64 0, .int .i64 0, .int .i64 2, .int .i64 0, .int .i64 0, .int .i64 3, .int .i64 0, .int .i64 0, .int .i64 4, .int .i64 0, .int .i64 0, .int .i64 5, .int .i64 0, .int .i64 0, .int .i64 5, .int .i64 0, .int .i64 0] 24)).alloc (.cells #[.int .i64 1, .int .i64 2, .int .i64 3, .int .i64 4, .int .i64 5, .int .i64 5, .int .i64 1, .int .i64 2, .int .i64 3, .int .i64 4, .int .i64 5, .int .i64 5] 3)
theorem After.keep {W w1 : World} (h : After W w1) {b o : Nat} {v : Value} (hc : W.cell? ⟨b, o, none⟩ = some v) : w1.cell? ⟨b, o, none⟩ = some v := by
  rw [h.cell.1 b o ?_]
  · exact hc
  · by_cases hb : b < W.heap.size
    · exact hb
    · exfalso
      unfold World.cell? at hc
      have : W.heap[b]? = none := by simp; omega
      simp [this] at hc
theorem keep4 {X W w1 : World} (h : After W w1) {p q i j k l : Nat} {x y z u : Value} (hc : W.cell? ⟨p, i, none⟩ = some x ∧ W.cell? ⟨p, j, none⟩ = some y ∧ W.cell? ⟨p, k, none⟩ = some z ∧ W.cell? ⟨q, l, none⟩ = some u ∧ After X W) :
    w1.cell? ⟨p, i, none⟩ = some x ∧ w1.cell? ⟨p, j, none⟩ = some y ∧ w1.cell? ⟨p, k, none⟩ = some z ∧ w1.cell? ⟨q, l, none⟩ = some u ∧ After X w1 :=
  ⟨h.keep hc.1, h.keep hc.2.1, h.keep hc.2.2.1, h.keep hc.2.2.2.1, hc.2.2.2.2.trans h⟩
theorem after_drew {W : World} : After W W.drew := After.rfl.draws 1
theorem kc12 {w W : World} (h : After (kX w) W) : (W.cell? ⟨w.heap.size, 0, none⟩ = some (.int .i64 1) ∧ W.cell? ⟨w.heap.size, 1, none⟩ = some (.int .i64 0) ∧ W.cell? ⟨w.heap.size, 2, none⟩ = some (.int .i64 0) ∧ W.cell? ⟨w.heap.size, 6, none⟩ = some (.int .i64 3) ∧ W.cell? ⟨w.heap.size, 7, none⟩ = some (.int .i64 0) ∧ W.cell? ⟨w.heap.size, 8, none⟩ = some (.int .i64 0) ∧ W.cell? ⟨w.heap.size, 9, none⟩ = some (.int .i64 4) ∧ W.cell? ⟨w.heap.size, 10, none⟩ = some (.int .i64 0) ∧ W.cell? ⟨w.heap.size, 11, none⟩ = some (.int .i64 0) ∧ W.cell? ⟨w.heap.size, 12, none⟩ = some (.int .i64 5) ∧ W.cell? ⟨w.heap.size, 13, none⟩ = some (.int .i64 0) ∧ W.cell? ⟨w.heap.size, 14, none⟩ = some (.int .i64 0)) ∧ True :=
  ⟨⟨h.keep (by unfold kX; simp), h.keep (by unfold kX; simp), h.keep (by unfold kX; simp), h.keep (by unfold kX; simp), h.keep (by unfold kX; simp), h.keep (by unfold kX; simp), h.keep (by unfold kX; simp), h.keep (by unfold kX; simp), h.keep (by unfold kX; simp), h.keep (by unfold kX; simp), h.keep (by unfold kX; simp), h.keep (by unfold kX; simp)⟩, trivial⟩
theorem keep12 {X W w1 : World} {p : Nat} (h : After W w1) (hc : W.cell? ⟨p, 0, none⟩ = some (.int .i64 1) ∧ W.cell? ⟨p, 1, none⟩ = some (.int .i64 0) ∧ W.cell? ⟨p, 2, none⟩ = some (.int .i64 0) ∧ W.cell? ⟨p, 6, none⟩ = some (.int .i64 3) ∧ W.cell? ⟨p, 7, none⟩ = some (.int .i64 0) ∧ W.cell? ⟨p, 8, none⟩ = some (.int .i64 0) ∧ W.cell? ⟨p, 9, none⟩ = some (.int .i64 4) ∧ W.cell? ⟨p, 10, none⟩ = some (.int .i64 0) ∧ W.cell? ⟨p, 11, none⟩ = some (.int .i64 0) ∧ W.cell? ⟨p, 12, none⟩ = some (.int .i64 5) ∧ W.cell? ⟨p, 13, none⟩ = some (.int .i64 0) ∧ W.cell? ⟨p, 14, none⟩ = some (.int .i64 0)) (hx : After X W) : w1.cell? ⟨p, 0, none⟩ = some (.int .i64 1) ∧ w1.cell? ⟨p, 1, none⟩ = some (.int .i64 0) ∧ w1.cell? ⟨p, 2, none⟩ = some (.int .i64 0) ∧ w1.cell? ⟨p, 6, none⟩ = some (.int .i64 3) ∧ w1.cell? ⟨p, 7, none⟩ = some (.int .i64 0) ∧ w1.cell? ⟨p, 8, none⟩ = some (.int .i64 0) ∧ w1.cell? ⟨p, 9, none⟩ = some (.int .i64 4) ∧ w1.cell? ⟨p, 10, none⟩ = some (.int .i64 0) ∧ w1.cell? ⟨p, 11, none⟩ = some (.int .i64 0) ∧ w1.cell? ⟨p, 12, none⟩ = some (.int .i64 5) ∧ w1.cell? ⟨p, 13, none⟩ = some (.int .i64 0) ∧ w1.cell? ⟨p, 14, none⟩ = some (.int .i64 0) ∧ After X w1 := by
  obtain ⟨q0, q1, q2, q3, q4, q5, q6, q7, q8, q9, q10, q11⟩ := hc
  exact ⟨h.keep q0, h.keep q1, h.keep q2, h.keep q3, h.keep q4, h.keep q5, h.keep q6, h.keep q7, h.keep q8, h.keep q9, h.keep q10, h.keep q11, hx.trans h⟩
theorem last12 {X W : World} {p : Nat} (hc : W.cell? ⟨p, 0, none⟩ = some (.int .i64 1) ∧ W.cell? ⟨p, 1, none⟩ = some (.int .i64 0) ∧ W.cell? ⟨p, 2, none⟩ = some (.int .i64 0) ∧ W.cell? ⟨p, 6, none⟩ = some (.int .i64 3) ∧ W.cell? ⟨p, 7, none⟩ = some (.int .i64 0) ∧ W.cell? ⟨p, 8, none⟩ = some (.int .i64 0) ∧ W.cell? ⟨p, 9, none⟩ = some (.int .i64 4) ∧ W.cell? ⟨p, 10, none⟩ = some (.int .i64 0) ∧ W.cell? ⟨p, 11, none⟩ = some (.int .i64 0) ∧ W.cell? ⟨p, 12, none⟩ = some (.int .i64 5) ∧ W.cell? ⟨p, 13, none⟩ = some (.int .i64 0) ∧ W.cell? ⟨p, 14, none⟩ = some (.int .i64 0) ∧ After X W) : After X W := hc.2.2.2.2.2.2.2.2.2.2.2.2
theorem keep12b {X W w1 : World} {p : Nat} (h : After W w1) (hc : W.cell? ⟨p, 0, none⟩ = some (.int .i64 1) ∧ W.cell? ⟨p, 1, none⟩ = some (.int .i64 0) ∧ W.cell? ⟨p, 2, none⟩ = some (.int .i64 0) ∧ W.cell? ⟨p, 6, none⟩ = some (.int .i64 3) ∧ W.cell? ⟨p, 7, none⟩ = some (.int .i64 0) ∧ W.cell? ⟨p, 8, none⟩ = some (.int .i64 0) ∧ W.cell? ⟨p, 9, none⟩ = some (.int .i64 4) ∧ W.cell? ⟨p, 10, none⟩ = some (.int .i64 0) ∧ W.cell? ⟨p, 11, none⟩ = some (.int .i64 0) ∧ W.cell? ⟨p, 12, none⟩ = some (.int .i64 5) ∧ W.cell? ⟨p, 13, none⟩ = some (.int .i64 0) ∧ W.cell? ⟨p, 14, none⟩ = some (.int .i64 0) ∧ After X W) : w1.cell? ⟨p, 0, none⟩ = some (.int .i64 1) ∧ w1.cell? ⟨p, 1, none⟩ = some (.int .i64 0) ∧ w1.cell? ⟨p, 2, none⟩ = some (.int .i64 0) ∧ w1.cell? ⟨p, 6, none⟩ = some (.int .i64 3) ∧ w1.cell? ⟨p, 7, none⟩ = some (.int .i64 0) ∧ w1.cell? ⟨p, 8, none⟩ = some (.int .i64 0) ∧ w1.cell? ⟨p, 9, none⟩ = some (.int .i64 4) ∧ w1.cell? ⟨p, 10, none⟩ = some (.int .i64 0) ∧ w1.cell? ⟨p, 11, none⟩ = some (.int .i64 0) ∧ w1.cell? ⟨p, 12, none⟩ = some (.int .i64 5) ∧ w1.cell? ⟨p, 13, none⟩ = some (.int .i64 0) ∧ w1.cell? ⟨p, 14, none⟩ = some (.int .i64 0) ∧ After X w1 := by
  obtain ⟨q0, q1, q2, q3, q4, q5, q6, q7, q8, q9, q10, q11, q12⟩ := hc
  exact ⟨h.keep q0, h.keep q1, h.keep q2, h.keep q3, h.keep q4, h.keep q5, h.keep q6, h.keep q7, h.keep q8, h.keep q9, h.keep q10, h.keep q11, q12.trans h⟩
/-- What Float answers, as one word for every real. -/
structure Fp (k m e : Int) (b : Nat) : Prop where
  yes : numB k m e = true → k = 0 → b = Fl.fl m e
  no : numB k m e = false → FlNo k m e b
theorem float_all (k m e : Int) (w : World) : Calls Try.prog 8 #[.agg #[.int .i64 k, .int .i64 m, .int .i64 e]] w fun x w' => ∃ b, x = .returned (.float .f64 b) ∧ Fp k m e b ∧ After w w' := by
  cases hn : numB k m e with
  | true =>
    refine (float_yes k m e w hn).mono ?_
    rintro x w' ⟨rfl, h⟩
    exact ⟨_, rfl, ⟨fun _ _ => rfl, fun h => by rw [hn] at h; cases h⟩, h⟩
  | false =>
    refine (float_no k m e w hn).mono ?_
    rintro x w' ⟨⟨b, rfl, hb⟩, h⟩
    exact ⟨b, rfl, ⟨(fun h => by rw [hn] at h; cases h), fun _ => hb⟩, h⟩
theorem Fp.f3 {b : Nat} (h : Fp 3 0 0 b) : b = 9218868437227405312 := by
  have := h.no (by decide)
  unfold FlNo at this; rw [if_pos (by decide)] at this; exact this
theorem Fp.f4 {b : Nat} (h : Fp 4 0 0 b) : b = 18442240474082181120 := by
  have := h.no (by decide)
  unfold FlNo at this; rw [if_neg (by decide), if_pos (by decide)] at this; exact this
theorem nan_ne {b : Nat} (h : Fl.NaN b) : ∀ y, (FloatKind.f64.format.order b y != some .eq) = true := fun y => by
  rw [Fl.nan_order h]; rfl
theorem Fp.f1 {b : Nat} (h : Fp 1 0 0 b) : ∀ y, (FloatKind.f64.format.order b y != some .eq) = true := by
  have := h.no (by decide)
  unfold FlNo at this; rw [if_neg (by decide), if_neg (by decide)] at this; exact nan_ne this
theorem Fp.f5 {b : Nat} (h : Fp 5 0 0 b) : ∀ y, (FloatKind.f64.format.order b y != some .eq) = true := by
  have := h.no (by decide)
  unfold FlNo at this; rw [if_neg (by decide), if_neg (by decide)] at this; exact nan_ne this
theorem Fp.fbig {b : Nat} (h : Fp 0 8388606 0 b) : ∀ y, (FloatKind.f64.format.order b y != some .eq) = true := by
  have := h.no (by decide)
  unfold FlNo at this; rw [if_neg (by decide), if_neg (by decide)] at this; exact nan_ne this
theorem Fp.f366 {b : Nat} (h : Fp 0 366 (-1) b) : b = 4630347809383304397 := (h.yes (by decide) rfl).trans (by decide +kernel)
theorem Fp.f09 {b : Nat} (h : Fp 0 0 9 b) : b = 0 := (h.yes (by decide) rfl).trans (by decide +kernel)
theorem Fp.f53 {b : Nat} (h : Fp 0 5 3 b) : b = 4662219572839972864 := (h.yes (by decide) rfl).trans (by decide +kernel)
theorem same00 : Fl.Same 0 0 := by
  have h := same_yes (m := 0) (e := 9) (by decide)
  have e : Fl.fl 0 9 = 0 := by decide +kernel
  rw [e] at h; exact h
theorem th1 : thZ 1 0 0 = -1 := by decide
theorem th2 : thZ 2 0 0 = -1 := by decide
theorem th3 : thZ 3 0 0 = -1 := by decide
theorem th4 : thZ 4 0 0 = -1 := by decide
theorem th5 : thZ 5 0 0 = -1 := by decide
theorem kc0 {w W : World} (h : After (kX w) W) : W.cell? ⟨w.heap.size, 0, none⟩ = some (.int .i64 1) ∧ W.cell? ⟨w.heap.size, 1, none⟩ = some (.int .i64 0) ∧ W.cell? ⟨w.heap.size, 2, none⟩ = some (.int .i64 0) ∧ W.cell? ⟨w.heap.size + 1, 0, none⟩ = some (.int .i64 1) ∧ After (kX w) W :=
  ⟨h.keep (by unfold kX; simp), h.keep (by unfold kX; simp), h.keep (by unfold kX; simp), h.keep (by unfold kX; simp), h⟩
theorem kc1 {w W : World} (h : After (kX w) W) : W.cell? ⟨w.heap.size, 3, none⟩ = some (.int .i64 2) ∧ W.cell? ⟨w.heap.size, 4, none⟩ = some (.int .i64 0) ∧ W.cell? ⟨w.heap.size, 5, none⟩ = some (.int .i64 0) ∧ W.cell? ⟨w.heap.size + 1, 1, none⟩ = some (.int .i64 2) ∧ After (kX w) W :=
  ⟨h.keep (by unfold kX; simp), h.keep (by unfold kX; simp), h.keep (by unfold kX; simp), h.keep (by unfold kX; simp), h⟩
theorem kc2 {w W : World} (h : After (kX w) W) : W.cell? ⟨w.heap.size, 6, none⟩ = some (.int .i64 3) ∧ W.cell? ⟨w.heap.size, 7, none⟩ = some (.int .i64 0) ∧ W.cell? ⟨w.heap.size, 8, none⟩ = some (.int .i64 0) ∧ W.cell? ⟨w.heap.size + 1, 2, none⟩ = some (.int .i64 3) ∧ After (kX w) W :=
  ⟨h.keep (by unfold kX; simp), h.keep (by unfold kX; simp), h.keep (by unfold kX; simp), h.keep (by unfold kX; simp), h⟩
theorem kc3 {w W : World} (h : After (kX w) W) : W.cell? ⟨w.heap.size, 9, none⟩ = some (.int .i64 4) ∧ W.cell? ⟨w.heap.size, 10, none⟩ = some (.int .i64 0) ∧ W.cell? ⟨w.heap.size, 11, none⟩ = some (.int .i64 0) ∧ W.cell? ⟨w.heap.size + 1, 3, none⟩ = some (.int .i64 4) ∧ After (kX w) W :=
  ⟨h.keep (by unfold kX; simp), h.keep (by unfold kX; simp), h.keep (by unfold kX; simp), h.keep (by unfold kX; simp), h⟩
theorem kc4 {w W : World} (h : After (kX w) W) : W.cell? ⟨w.heap.size, 12, none⟩ = some (.int .i64 5) ∧ W.cell? ⟨w.heap.size, 13, none⟩ = some (.int .i64 0) ∧ W.cell? ⟨w.heap.size, 14, none⟩ = some (.int .i64 0) ∧ W.cell? ⟨w.heap.size + 1, 4, none⟩ = some (.int .i64 5) ∧ After (kX w) W :=
  ⟨h.keep (by unfold kX; simp), h.keep (by unfold kX; simp), h.keep (by unfold kX; simp), h.keep (by unfold kX; simp), h⟩
theorem kc5 {w W : World} (h : After (kX w) W) : W.cell? ⟨w.heap.size, 15, none⟩ = some (.int .i64 5) ∧ W.cell? ⟨w.heap.size, 16, none⟩ = some (.int .i64 0) ∧ W.cell? ⟨w.heap.size, 17, none⟩ = some (.int .i64 0) ∧ W.cell? ⟨w.heap.size + 1, 5, none⟩ = some (.int .i64 5) ∧ After (kX w) W :=
  ⟨h.keep (by unfold kX; simp), h.keep (by unfold kX; simp), h.keep (by unfold kX; simp), h.keep (by unfold kX; simp), h⟩
theorem kc6 {w W : World} (h : After (kX w) W) : W.cell? ⟨w.heap.size, 18, none⟩ = some (.int .i64 1) ∧ W.cell? ⟨w.heap.size, 19, none⟩ = some (.int .i64 0) ∧ W.cell? ⟨w.heap.size, 20, none⟩ = some (.int .i64 0) ∧ W.cell? ⟨w.heap.size + 1, 6, none⟩ = some (.int .i64 1) ∧ After (kX w) W :=
  ⟨h.keep (by unfold kX; simp), h.keep (by unfold kX; simp), h.keep (by unfold kX; simp), h.keep (by unfold kX; simp), h⟩
theorem kc7 {w W : World} (h : After (kX w) W) : W.cell? ⟨w.heap.size, 21, none⟩ = some (.int .i64 2) ∧ W.cell? ⟨w.heap.size, 22, none⟩ = some (.int .i64 0) ∧ W.cell? ⟨w.heap.size, 23, none⟩ = some (.int .i64 0) ∧ W.cell? ⟨w.heap.size + 1, 7, none⟩ = some (.int .i64 2) ∧ After (kX w) W :=
  ⟨h.keep (by unfold kX; simp), h.keep (by unfold kX; simp), h.keep (by unfold kX; simp), h.keep (by unfold kX; simp), h⟩
theorem kc8 {w W : World} (h : After (kX w) W) : W.cell? ⟨w.heap.size, 24, none⟩ = some (.int .i64 3) ∧ W.cell? ⟨w.heap.size, 25, none⟩ = some (.int .i64 0) ∧ W.cell? ⟨w.heap.size, 26, none⟩ = some (.int .i64 0) ∧ W.cell? ⟨w.heap.size + 1, 8, none⟩ = some (.int .i64 3) ∧ After (kX w) W :=
  ⟨h.keep (by unfold kX; simp), h.keep (by unfold kX; simp), h.keep (by unfold kX; simp), h.keep (by unfold kX; simp), h⟩
theorem kc9 {w W : World} (h : After (kX w) W) : W.cell? ⟨w.heap.size, 27, none⟩ = some (.int .i64 4) ∧ W.cell? ⟨w.heap.size, 28, none⟩ = some (.int .i64 0) ∧ W.cell? ⟨w.heap.size, 29, none⟩ = some (.int .i64 0) ∧ W.cell? ⟨w.heap.size + 1, 9, none⟩ = some (.int .i64 4) ∧ After (kX w) W :=
  ⟨h.keep (by unfold kX; simp), h.keep (by unfold kX; simp), h.keep (by unfold kX; simp), h.keep (by unfold kX; simp), h⟩
theorem kc10 {w W : World} (h : After (kX w) W) : W.cell? ⟨w.heap.size, 30, none⟩ = some (.int .i64 5) ∧ W.cell? ⟨w.heap.size, 31, none⟩ = some (.int .i64 0) ∧ W.cell? ⟨w.heap.size, 32, none⟩ = some (.int .i64 0) ∧ W.cell? ⟨w.heap.size + 1, 10, none⟩ = some (.int .i64 5) ∧ After (kX w) W :=
  ⟨h.keep (by unfold kX; simp), h.keep (by unfold kX; simp), h.keep (by unfold kX; simp), h.keep (by unfold kX; simp), h⟩
theorem kc11 {w W : World} (h : After (kX w) W) : W.cell? ⟨w.heap.size, 33, none⟩ = some (.int .i64 5) ∧ W.cell? ⟨w.heap.size, 34, none⟩ = some (.int .i64 0) ∧ W.cell? ⟨w.heap.size, 35, none⟩ = some (.int .i64 0) ∧ W.cell? ⟨w.heap.size + 1, 11, none⟩ = some (.int .i64 5) ∧ After (kX w) W :=
  ⟨h.keep (by unfold kX; simp), h.keep (by unfold kX; simp), h.keep (by unfold kX; simp), h.keep (by unfold kX; simp), h⟩
theorem sh0 : shK 0 = 0 ∧ shM 0 = 0 ∧ shE 0 = 0 := by decide
theorem sh34813 : shK 34813 = 0 ∧ shM 34813 = 2045 ∧ shE 34813 = -8 := by decide
theorem sh30723 : shK 30723 = 0 ∧ shM 30723 = -2045 ∧ shE 30723 = 7 := by decide
theorem lo2139095037 : loK 2139095037 = 0 ∧ loM 2139095037 = 8388605 ∧ loE 2139095037 = 127 := by decide
theorem lo2155872259 : loK 2155872259 = 0 ∧ loM 2155872259 = -8388605 ∧ loE 2155872259 = -128 := by decide
theorem th5_n4 : thZ 0 5 (-4) = 1 := by decide
theorem thn5_n4 : thZ 0 (-5) (-4) = -1 := by decide
theorem th4_n4 : thZ 0 4 (-4) = 0 := by decide
theorem th1_127 : thZ 0 1 127 = 2147483647 := by decide
theorem thn1_127 : thZ 0 (-1) 127 = -2147483647 := by decide
theorem th0_127 : thZ 0 0 127 = 0 := by decide
theorem th8388605_n128 : thZ 0 8388605 (-128) = 0 := by decide
theorem th2147483_0 : thZ 0 2147483 0 = 2147483000 := by decide
theorem th2147484_0 : thZ 0 2147484 0 = 2147483647 := by decide
theorem th8388605_n10 : thZ 0 8388605 (-10) = 1 := by decide
theorem th4999999_n10 : thZ 0 4999999 (-10) = 0 := by decide
theorem th5000000_n10 : thZ 0 5000000 (-10) = 1 := by decide
theorem ps0 : psV 0 2046 0 = 0 ∧ psE 0 2046 0 = 9 := by decide
theorem ps1 : psV 0 1 8 = 0 ∧ psE 0 1 8 = 9 := by decide
theorem ps2 : psV 0 1 (-9) = 0 ∧ psE 0 1 (-9) = 9 := by decide
theorem ps3 : psV 3 0 0 = 2046 ∧ psE 3 0 0 = 0 := by decide
theorem ps4 : psV 1 0 1 = 0 ∧ psE 1 0 1 = 2 := by decide
theorem ps5 : psV 6 0 0 = 0 ∧ psE 6 0 0 = 2 := by decide
theorem ps6 : psV (-1) 0 0 = 0 ∧ psE (-1) 0 0 = 2 := by decide
theorem ps7 : psV 0 8388606 0 = 0 ∧ psE 0 8388606 0 = 2 := by decide
theorem ps8 : psV 0 0 128 = 0 ∧ psE 0 0 128 = 2 := by decide
theorem ps9 : psV 2 0 0 = 2048 ∧ psE 2 0 0 = 0 := by decide
theorem pl0_8388605_127 : plV 0 8388605 127 = 2139095037 ∧ plE 0 8388605 127 = 0 := by decide
theorem pl4_0_0 : plV 4 0 0 = 8388610 ∧ plE 4 0 0 = 0 := by decide
theorem pl0_8388606_0 : plV 0 8388606 0 = 0 ∧ plE 0 8388606 0 = 2 := by decide
theorem of0 : ofM 0 = 0 ∧ ofE 0 = 0 := by decide
theorem ofn5 : ofM (-5) = -5 ∧ ofE (-5) = -3 := by decide
theorem of2147483647 : ofM 2147483647 = 2147484 ∧ ofE 2147483647 = 0 := by decide
theorem of10000000 : ofM 10000000 = 1 ∧ ofE 10000000 = 4 := by decide
theorem ofn9223372036854775808 : ofM (-9223372036854775808) = -2147484 ∧ ofE (-9223372036854775808) = 0 := by decide
theorem of8388605 : ofM 8388605 = 8388605 ∧ ofE 8388605 = -3 := by decide
theorem of8388606 : ofM 8388606 = 838861 ∧ ofE 8388606 = -2 := by decide
def Glist : List Int := [0, 9, 0, 9, 0, 9, 2046, 0, 0, 2, 0, 2, 0, 2, 0, 2, 0, 2, 2048, 0]
def rX (w : World) : World := w.alloc (.cells #[.int .i64 0, .int .i64 2046, .int .i64 0, .int .i64 0, .int .i64 1, .int .i64 8, .int .i64 0, .int .i64 1, .int .i64 (-9), .int .i64 3, .int .i64 0, .int .i64 0, .int .i64 1, .int .i64 0, .int .i64 1, .int .i64 6, .int .i64 0, .int .i64 0, .int .i64 (-1), .int .i64 0, .int .i64 0, .int .i64 0, .int .i64 8388606, .int .i64 0, .int .i64 0, .int .i64 0, .int .i64 128, .int .i64 2, .int .i64 0, .int .i64 0] 24)
theorem rX_size (w : World) : (rX w).heap.size = w.heap.size + 1 := by simp [rX]
theorem info3 : (Try.prog.info? 3).map (fun i => (i.zero, i.size, i.bytes)) = some (some (.int .i64 0), 1, 8) := by kernel_rfl
theorem own_after {w W : World} {B : Nat} {e : TypeId} {sz : Nat} {v : Value} {n : Nat} {xs : List Value} (h : w.ownsRow B e sz v n xs) (ha : After w W) : W.ownsRow B e sz v n xs := by
  refine ⟨h.1, ?_⟩
  rcases h.2 with hn | ⟨g, cap, cur, h1, h2, h3, h4⟩
  · exact Or.inl hn
  · have hlt : g < w.heap.size := by
      rcases Nat.lt_or_ge g w.heap.size with h' | h'
      · exact h'
      · rw [Array.getElem?_eq_none h'] at h3; cases h3
    exact Or.inr ⟨g, cap, cur, h1, h2, (Below.block ha g hlt).trans h3, h4⟩
theorem rX_le {v wr W : World} (h : After (rX v) wr) (k : After wr W) : v.heap.size + 1 ≤ W.heap.size := by
  have := After.size h; have := After.size k; rw [rX_size] at *; omega
theorem rX_rel {v wr W w2 : World} {got : Value} {n : Nat} {xs : List Value} (h : After (rX v) wr) (ho : wr.ownsRow (v.heap.size + 1) 3 1 got n xs) (ha : After wr W) (hg : W.grownBy w2 got.ownBlock) : After (rX v) w2 := by
  refine After.of (Below.grown (h.trans ha) hg ?_ (fun k hk => ?_))
  · exact After.size (h.trans ha)
  · rw [rX_size]; exact (ho.lt k hk).1
theorem cell_new (W : World) (C : Array Value) (t : TypeId) (j : Nat) : (W.alloc (.cells C t)).cell? ⟨W.heap.size, j, none⟩ = C[j]? := World.cell?_alloc_mark W C t (0, 0) j
theorem two_new (W : World) (x y : Value) : ∀ (j : Nat) (u : Value), [x, y][j]? = some u → (W.alloc (Obj.cells #[x, y] 3)).cell? ((⟨W.heap.size, 0, none⟩ : Addr).add j) = some u := by
  intro j u hj
  have ha : ((⟨W.heap.size, 0, none⟩ : Addr).add j) = ⟨W.heap.size, j, none⟩ := by simp [Addr.add]; omega
  rw [ha, cell_new]
  simpa using hj
theorem two_one (a b : Int) : ∀ u, u ∈ [Value.int .i64 a, Value.int .i64 b] → u.oneCell' = true := by
  intro u hu; simp at hu; rcases hu with rfl | rfl <;> rfl
def vals (l : List Int) : List Value := l.map (Value.int .i64)
theorem own_shape3 {W : World} {B : Nat} {v : Value} {n : Nat} {xs : List Value} (h : W.ownsRow B 3 1 v n xs) (hn : 0 < n) : ∃ g cap, v = .slice (some ⟨g, 0, none⟩) n cap := by
  rcases h.2 with ⟨_, h0⟩ | ⟨g, cap, cur, rfl, _⟩
  · omega
  · exact ⟨g, cap, rfl⟩
theorem own_cells {W : World} {B g cap : Nat} {l : List Int} {n : Nat} (hn : n = l.length) (h : W.ownsRow B 3 1 (.slice (some ⟨g, 0, none⟩) n cap) n (vals l)) : ∀ j, j < n → W.cell? ⟨g, j, none⟩ = some (.int .i64 (l.getD j 0)) := by
  subst hn
  intro j hj
  rw [h.cellAt j (by omega)]
  unfold vals
  simp [hj]
theorem new_cells (W : World) (l : List Int) {C : Array Value} (hC : C = (vals l).toArray) {n : Nat} (hn : n = l.length) : ∀ j, j < n → (W.alloc (.cells C 3)).cell? ⟨W.heap.size, j, none⟩ = some (.int .i64 (l.getD j 0)) := by
  subst hn hC
  intro j hj
  rw [cell_new]
  unfold vals
  simp [hj]
theorem o53 : (FloatKind.f64.format.order 4662219572839972864 4662219572839972864 == some .eq) = true := by decide +kernel

theorem rc0 {w W : World} (h : After (rX w) W) : W.cell? ⟨w.heap.size, 0, none⟩ = some (.int .i64 0) ∧ W.cell? ⟨w.heap.size, 1, none⟩ = some (.int .i64 2046) ∧ W.cell? ⟨w.heap.size, 2, none⟩ = some (.int .i64 0) :=
  ⟨h.keep (by unfold rX; simp), h.keep (by unfold rX; simp), h.keep (by unfold rX; simp)⟩
theorem rc1 {w W : World} (h : After (rX w) W) : W.cell? ⟨w.heap.size, 3, none⟩ = some (.int .i64 0) ∧ W.cell? ⟨w.heap.size, 4, none⟩ = some (.int .i64 1) ∧ W.cell? ⟨w.heap.size, 5, none⟩ = some (.int .i64 8) :=
  ⟨h.keep (by unfold rX; simp), h.keep (by unfold rX; simp), h.keep (by unfold rX; simp)⟩
theorem rc2 {w W : World} (h : After (rX w) W) : W.cell? ⟨w.heap.size, 6, none⟩ = some (.int .i64 0) ∧ W.cell? ⟨w.heap.size, 7, none⟩ = some (.int .i64 1) ∧ W.cell? ⟨w.heap.size, 8, none⟩ = some (.int .i64 (-9)) :=
  ⟨h.keep (by unfold rX; simp), h.keep (by unfold rX; simp), h.keep (by unfold rX; simp)⟩
theorem rc3 {w W : World} (h : After (rX w) W) : W.cell? ⟨w.heap.size, 9, none⟩ = some (.int .i64 3) ∧ W.cell? ⟨w.heap.size, 10, none⟩ = some (.int .i64 0) ∧ W.cell? ⟨w.heap.size, 11, none⟩ = some (.int .i64 0) :=
  ⟨h.keep (by unfold rX; simp), h.keep (by unfold rX; simp), h.keep (by unfold rX; simp)⟩
theorem rc4 {w W : World} (h : After (rX w) W) : W.cell? ⟨w.heap.size, 12, none⟩ = some (.int .i64 1) ∧ W.cell? ⟨w.heap.size, 13, none⟩ = some (.int .i64 0) ∧ W.cell? ⟨w.heap.size, 14, none⟩ = some (.int .i64 1) :=
  ⟨h.keep (by unfold rX; simp), h.keep (by unfold rX; simp), h.keep (by unfold rX; simp)⟩
theorem rc5 {w W : World} (h : After (rX w) W) : W.cell? ⟨w.heap.size, 15, none⟩ = some (.int .i64 6) ∧ W.cell? ⟨w.heap.size, 16, none⟩ = some (.int .i64 0) ∧ W.cell? ⟨w.heap.size, 17, none⟩ = some (.int .i64 0) :=
  ⟨h.keep (by unfold rX; simp), h.keep (by unfold rX; simp), h.keep (by unfold rX; simp)⟩
theorem rc6 {w W : World} (h : After (rX w) W) : W.cell? ⟨w.heap.size, 18, none⟩ = some (.int .i64 (-1)) ∧ W.cell? ⟨w.heap.size, 19, none⟩ = some (.int .i64 0) ∧ W.cell? ⟨w.heap.size, 20, none⟩ = some (.int .i64 0) :=
  ⟨h.keep (by unfold rX; simp), h.keep (by unfold rX; simp), h.keep (by unfold rX; simp)⟩
theorem rc7 {w W : World} (h : After (rX w) W) : W.cell? ⟨w.heap.size, 21, none⟩ = some (.int .i64 0) ∧ W.cell? ⟨w.heap.size, 22, none⟩ = some (.int .i64 8388606) ∧ W.cell? ⟨w.heap.size, 23, none⟩ = some (.int .i64 0) :=
  ⟨h.keep (by unfold rX; simp), h.keep (by unfold rX; simp), h.keep (by unfold rX; simp)⟩
theorem rc8 {w W : World} (h : After (rX w) W) : W.cell? ⟨w.heap.size, 24, none⟩ = some (.int .i64 0) ∧ W.cell? ⟨w.heap.size, 25, none⟩ = some (.int .i64 0) ∧ W.cell? ⟨w.heap.size, 26, none⟩ = some (.int .i64 128) :=
  ⟨h.keep (by unfold rX; simp), h.keep (by unfold rX; simp), h.keep (by unfold rX; simp)⟩
theorem rc9 {w W : World} (h : After (rX w) W) : W.cell? ⟨w.heap.size, 27, none⟩ = some (.int .i64 2) ∧ W.cell? ⟨w.heap.size, 28, none⟩ = some (.int .i64 0) ∧ W.cell? ⟨w.heap.size, 29, none⟩ = some (.int .i64 0) :=
  ⟨h.keep (by unfold rX; simp), h.keep (by unfold rX; simp), h.keep (by unfold rX; simp)⟩
set_option maxRecDepth 100000 in
set_option maxHeartbeats 4000000 in
theorem known_t (w : World) : Calls Try.prog 3 #[] w fun e w' => e = .returned (.bool true) ∧ After w w' := by
  have HA : After w w := After.rfl
  go_enter Try.func3, Try.ntmps3
  go_wp2_with fail
  refine (short_any 2047 _ (by omega) (by omega)).mono ?_
  rintro e w1 ⟨rfl, A1⟩
  rw [s2047.1, s2047.2.1, s2047.2.2]
  replace HA := HA.trans A1
  clear A1
  go_wp2_with fail
  refine (short_any 2048 _ (by omega) (by omega)).mono ?_
  rintro e w2 ⟨rfl, A2⟩
  rw [s2048.1, s2048.2.1, s2048.2.2]
  replace HA := HA.trans A2
  clear A2
  go_wp2_with fail
  refine (short_any 2046 _ (by omega) (by omega)).mono ?_
  rintro e w3 ⟨rfl, A3⟩
  rw [s2046.1, s2046.2.1, s2046.2.2]
  replace HA := HA.trans A3
  clear A3
  go_wp2_with fail
  refine (short_any 2050 _ (by omega) (by omega)).mono ?_
  rintro e w4 ⟨rfl, A4⟩
  rw [s2050.1, s2050.2.1, s2050.2.2]
  replace HA := HA.trans A4
  clear A4
  go_wp2_with fail
  refine (short_any 2049 _ (by omega) (by omega)).mono ?_
  rintro e w5 ⟨rfl, A5⟩
  rw [s2049.1, s2049.2.1, s2049.2.2]
  replace HA := HA.trans A5
  clear A5
  go_wp2_with fail
  refine (short_any 6143 _ (by omega) (by omega)).mono ?_
  rintro e w6 ⟨rfl, A6⟩
  rw [s6143.1, s6143.2.1, s6143.2.2]
  replace HA := HA.trans A6
  clear A6
  go_wp2_with fail
  refine (long_any 8388607 _ (by omega) (by omega)).mono ?_
  rintro e w7 ⟨rfl, A7⟩
  rw [l8388607.1, l8388607.2.1, l8388607.2.2]
  replace HA := HA.trans A7
  clear A7
  go_wp2_with fail
  refine (long_any 8388608 _ (by omega) (by omega)).mono ?_
  rintro e w8 ⟨rfl, A8⟩
  rw [l8388608.1, l8388608.2.1, l8388608.2.2]
  replace HA := HA.trans A8
  clear A8
  go_wp2_with fail
  refine (long_any 8388606 _ (by omega) (by omega)).mono ?_
  rintro e w9 ⟨rfl, A9⟩
  rw [l8388606.1, l8388606.2.1, l8388606.2.2]
  replace HA := HA.trans A9
  clear A9
  go_wp2_with fail
  refine (long_any 8388610 _ (by omega) (by omega)).mono ?_
  rintro e w10 ⟨rfl, A10⟩
  rw [l8388610.1, l8388610.2.1, l8388610.2.2]
  replace HA := HA.trans A10
  clear A10
  go_wp2_with fail
  refine (long_any 8388609 _ (by omega) (by omega)).mono ?_
  rintro e w11 ⟨rfl, A11⟩
  rw [l8388609.1, l8388609.2.1, l8388609.2.2]
  replace HA := HA.trans A11
  clear A11
  go_wp2_with fail
  refine (long_any 2155872256 _ (by omega) (by omega)).mono ?_
  rintro e w12 ⟨rfl, A12⟩
  rw [l2155872256.1, l2155872256.2.1, l2155872256.2.2]
  replace HA := HA.trans A12
  clear A12
  go_wp2_with fail
  go_loopw [4] (fun i W => ∃ k : Nat, k ≤ 12 ∧ i = .int .i64 k ∧ After (kX w12) W) (fun i _ => 12 - (intOf i).toNat)
  case atStart => exact ⟨0, by decide, rfl, After.rfl⟩
  case round =>
    obtain ⟨k, hk, rfl, hX⟩ := hrel
    by_cases hlt : k < 12
    · have hk' : k = 0 ∨ k = 1 ∨ k = 2 ∨ k = 3 ∨ k = 4 ∨ k = 5 ∨ k = 6 ∨ k = 7 ∨ k = 8 ∨ k = 9 ∨ k = 10 ∨ k = 11 := by omega
      clear hk hlt
      rcases hk' with rfl | rfl | rfl | rfl | rfl | rfl | rfl | rfl | rfl | rfl | rfl | rfl
      · have c := kc0 hX
        have c' := hideIt c
        obtain ⟨i1, i2, i3, i4, i5⟩ := c
        generalize hp : w12.heap.size = p at *
        go_wp2_with fail
        go_region_held3 (fun W => W.cell? ⟨p, 0, none⟩ = some (.int .i64 1) ∧ W.cell? ⟨p, 1, none⟩ = some (.int .i64 0) ∧ W.cell? ⟨p, 2, none⟩ = some (.int .i64 0) ∧ W.cell? ⟨p + 1, 0, none⟩ = some (.int .i64 1) ∧ After (kX w12) W)
          (first | exact keep4 after_drew c'.out | exact keep4 h6 (by assumption) | assumption)
          (first | (go_at_call 6; refine (thousandths_any 1 0 0 _).mono ?_; rintro e' w13 ⟨rfl, h6⟩; rw [th1]))
        have hY := (i5.trans after_drew).trans h6
        go_wp2
        go_roundw
        case rel => exact ⟨1, by decide, by go_num, hY⟩
        case measure => simp [intOf]
      · have c := kc1 hX
        have c' := hideIt c
        obtain ⟨i1, i2, i3, i4, i5⟩ := c
        generalize hp : w12.heap.size = p at *
        go_wp2_with fail
        go_region_held3 (fun W => W.cell? ⟨p, 3, none⟩ = some (.int .i64 2) ∧ W.cell? ⟨p, 4, none⟩ = some (.int .i64 0) ∧ W.cell? ⟨p, 5, none⟩ = some (.int .i64 0) ∧ W.cell? ⟨p + 1, 1, none⟩ = some (.int .i64 2) ∧ After (kX w12) W)
          (first | exact keep4 after_drew c'.out | exact keep4 h6 (by assumption) | assumption)
          (first | (go_at_call 6; refine (thousandths_any 2 0 0 _).mono ?_; rintro e' w13 ⟨rfl, h6⟩; rw [th2]))
        have hY := (i5.trans after_drew).trans h6
        go_wp2
        go_roundw
        case rel => exact ⟨2, by decide, by go_num, hY⟩
        case measure => simp [intOf]
      · have c := kc2 hX
        have c' := hideIt c
        obtain ⟨i1, i2, i3, i4, i5⟩ := c
        generalize hp : w12.heap.size = p at *
        go_wp2_with fail
        go_region_held3 (fun W => W.cell? ⟨p, 6, none⟩ = some (.int .i64 3) ∧ W.cell? ⟨p, 7, none⟩ = some (.int .i64 0) ∧ W.cell? ⟨p, 8, none⟩ = some (.int .i64 0) ∧ W.cell? ⟨p + 1, 2, none⟩ = some (.int .i64 3) ∧ After (kX w12) W)
          (first | exact keep4 after_drew c'.out | exact keep4 h6 (by assumption) | assumption)
          (first | (go_at_call 6; refine (thousandths_any 3 0 0 _).mono ?_; rintro e' w13 ⟨rfl, h6⟩; rw [th3]))
        have hY := (i5.trans after_drew).trans h6
        go_wp2
        go_roundw
        case rel => exact ⟨3, by decide, by go_num, hY⟩
        case measure => simp [intOf]
      · have c := kc3 hX
        have c' := hideIt c
        obtain ⟨i1, i2, i3, i4, i5⟩ := c
        generalize hp : w12.heap.size = p at *
        go_wp2_with fail
        go_region_held3 (fun W => W.cell? ⟨p, 9, none⟩ = some (.int .i64 4) ∧ W.cell? ⟨p, 10, none⟩ = some (.int .i64 0) ∧ W.cell? ⟨p, 11, none⟩ = some (.int .i64 0) ∧ W.cell? ⟨p + 1, 3, none⟩ = some (.int .i64 4) ∧ After (kX w12) W)
          (first | exact keep4 after_drew c'.out | exact keep4 h6 (by assumption) | assumption)
          (first | (go_at_call 6; refine (thousandths_any 4 0 0 _).mono ?_; rintro e' w13 ⟨rfl, h6⟩; rw [th4]))
        have hY := (i5.trans after_drew).trans h6
        go_wp2
        go_roundw
        case rel => exact ⟨4, by decide, by go_num, hY⟩
        case measure => simp [intOf]
      · have c := kc4 hX
        have c' := hideIt c
        obtain ⟨i1, i2, i3, i4, i5⟩ := c
        generalize hp : w12.heap.size = p at *
        go_wp2_with fail
        go_region_held3 (fun W => W.cell? ⟨p, 12, none⟩ = some (.int .i64 5) ∧ W.cell? ⟨p, 13, none⟩ = some (.int .i64 0) ∧ W.cell? ⟨p, 14, none⟩ = some (.int .i64 0) ∧ W.cell? ⟨p + 1, 4, none⟩ = some (.int .i64 5) ∧ After (kX w12) W)
          (first | exact keep4 after_drew c'.out | exact keep4 h6 (by assumption) | assumption)
          (first | (go_at_call 6; refine (thousandths_any 5 0 0 _).mono ?_; rintro e' w13 ⟨rfl, h6⟩; rw [th5]))
        have hY := (i5.trans after_drew).trans h6
        go_wp2
        go_roundw
        case rel => exact ⟨5, by decide, by go_num, hY⟩
        case measure => simp [intOf]
      · have c := kc5 hX
        have c' := hideIt c
        obtain ⟨i1, i2, i3, i4, i5⟩ := c
        generalize hp : w12.heap.size = p at *
        go_wp2_with fail
        go_region_held3 (fun W => W.cell? ⟨p, 15, none⟩ = some (.int .i64 5) ∧ W.cell? ⟨p, 16, none⟩ = some (.int .i64 0) ∧ W.cell? ⟨p, 17, none⟩ = some (.int .i64 0) ∧ W.cell? ⟨p + 1, 5, none⟩ = some (.int .i64 5) ∧ After (kX w12) W)
          (first | exact keep4 after_drew c'.out | exact keep4 h6 (by assumption) | assumption)
          (first | (go_at_call 6; refine (thousandths_any 5 0 0 _).mono ?_; rintro e' w13 ⟨rfl, h6⟩; rw [th5]))
        have hY := (i5.trans after_drew).trans h6
        go_wp2
        go_roundw
        case rel => exact ⟨6, by decide, by go_num, hY⟩
        case measure => simp [intOf]
      · have c := kc6 hX
        have c' := hideIt c
        obtain ⟨i1, i2, i3, i4, i5⟩ := c
        generalize hp : w12.heap.size = p at *
        go_wp2_with fail
        go_region_held3 (fun W => W.cell? ⟨p, 18, none⟩ = some (.int .i64 1) ∧ W.cell? ⟨p, 19, none⟩ = some (.int .i64 0) ∧ W.cell? ⟨p, 20, none⟩ = some (.int .i64 0) ∧ W.cell? ⟨p + 1, 6, none⟩ = some (.int .i64 1) ∧ After (kX w12) W)
          (first | exact keep4 after_drew c'.out | exact keep4 h6 (by assumption) | assumption)
          (first | (go_at_call 6; refine (thousandths_any 1 0 0 _).mono ?_; rintro e' w13 ⟨rfl, h6⟩; rw [th1]))
        have hY := (i5.trans after_drew).trans h6
        go_wp2
        go_roundw
        case rel => exact ⟨7, by decide, by go_num, hY⟩
        case measure => simp [intOf]
      · have c := kc7 hX
        have c' := hideIt c
        obtain ⟨i1, i2, i3, i4, i5⟩ := c
        generalize hp : w12.heap.size = p at *
        go_wp2_with fail
        go_region_held3 (fun W => W.cell? ⟨p, 21, none⟩ = some (.int .i64 2) ∧ W.cell? ⟨p, 22, none⟩ = some (.int .i64 0) ∧ W.cell? ⟨p, 23, none⟩ = some (.int .i64 0) ∧ W.cell? ⟨p + 1, 7, none⟩ = some (.int .i64 2) ∧ After (kX w12) W)
          (first | exact keep4 after_drew c'.out | exact keep4 h6 (by assumption) | assumption)
          (first | (go_at_call 6; refine (thousandths_any 2 0 0 _).mono ?_; rintro e' w13 ⟨rfl, h6⟩; rw [th2]))
        have hY := (i5.trans after_drew).trans h6
        go_wp2
        go_roundw
        case rel => exact ⟨8, by decide, by go_num, hY⟩
        case measure => simp [intOf]
      · have c := kc8 hX
        have c' := hideIt c
        obtain ⟨i1, i2, i3, i4, i5⟩ := c
        generalize hp : w12.heap.size = p at *
        go_wp2_with fail
        go_region_held3 (fun W => W.cell? ⟨p, 24, none⟩ = some (.int .i64 3) ∧ W.cell? ⟨p, 25, none⟩ = some (.int .i64 0) ∧ W.cell? ⟨p, 26, none⟩ = some (.int .i64 0) ∧ W.cell? ⟨p + 1, 8, none⟩ = some (.int .i64 3) ∧ After (kX w12) W)
          (first | exact keep4 after_drew c'.out | exact keep4 h6 (by assumption) | assumption)
          (first | (go_at_call 6; refine (thousandths_any 3 0 0 _).mono ?_; rintro e' w13 ⟨rfl, h6⟩; rw [th3]))
        have hY := (i5.trans after_drew).trans h6
        go_wp2
        go_roundw
        case rel => exact ⟨9, by decide, by go_num, hY⟩
        case measure => simp [intOf]
      · have c := kc9 hX
        have c' := hideIt c
        obtain ⟨i1, i2, i3, i4, i5⟩ := c
        generalize hp : w12.heap.size = p at *
        go_wp2_with fail
        go_region_held3 (fun W => W.cell? ⟨p, 27, none⟩ = some (.int .i64 4) ∧ W.cell? ⟨p, 28, none⟩ = some (.int .i64 0) ∧ W.cell? ⟨p, 29, none⟩ = some (.int .i64 0) ∧ W.cell? ⟨p + 1, 9, none⟩ = some (.int .i64 4) ∧ After (kX w12) W)
          (first | exact keep4 after_drew c'.out | exact keep4 h6 (by assumption) | assumption)
          (first | (go_at_call 6; refine (thousandths_any 4 0 0 _).mono ?_; rintro e' w13 ⟨rfl, h6⟩; rw [th4]))
        have hY := (i5.trans after_drew).trans h6
        go_wp2
        go_roundw
        case rel => exact ⟨10, by decide, by go_num, hY⟩
        case measure => simp [intOf]
      · have c := kc10 hX
        have c' := hideIt c
        obtain ⟨i1, i2, i3, i4, i5⟩ := c
        generalize hp : w12.heap.size = p at *
        go_wp2_with fail
        go_region_held3 (fun W => W.cell? ⟨p, 30, none⟩ = some (.int .i64 5) ∧ W.cell? ⟨p, 31, none⟩ = some (.int .i64 0) ∧ W.cell? ⟨p, 32, none⟩ = some (.int .i64 0) ∧ W.cell? ⟨p + 1, 10, none⟩ = some (.int .i64 5) ∧ After (kX w12) W)
          (first | exact keep4 after_drew c'.out | exact keep4 h6 (by assumption) | assumption)
          (first | (go_at_call 6; refine (thousandths_any 5 0 0 _).mono ?_; rintro e' w13 ⟨rfl, h6⟩; rw [th5]))
        have hY := (i5.trans after_drew).trans h6
        go_wp2
        go_roundw
        case rel => exact ⟨11, by decide, by go_num, hY⟩
        case measure => simp [intOf]
      · have c := kc11 hX
        have c' := hideIt c
        obtain ⟨i1, i2, i3, i4, i5⟩ := c
        generalize hp : w12.heap.size = p at *
        go_wp2_with fail
        go_region_held3 (fun W => W.cell? ⟨p, 33, none⟩ = some (.int .i64 5) ∧ W.cell? ⟨p, 34, none⟩ = some (.int .i64 0) ∧ W.cell? ⟨p, 35, none⟩ = some (.int .i64 0) ∧ W.cell? ⟨p + 1, 11, none⟩ = some (.int .i64 5) ∧ After (kX w12) W)
          (first | exact keep4 after_drew c'.out | exact keep4 h6 (by assumption) | assumption)
          (first | (go_at_call 6; refine (thousandths_any 5 0 0 _).mono ?_; rintro e' w13 ⟨rfl, h6⟩; rw [th5]))
        have hY := (i5.trans after_drew).trans h6
        go_wp2
        go_roundw
        case rel => exact ⟨12, by decide, by go_num, hY⟩
        case measure => simp [intOf]
    · obtain rfl : k = 12 := by omega
      clear hk hlt
      go_wp2_with fail
      refine (short_any 0 _ (by omega) (by omega)).mono ?_
      rintro e v1 ⟨rfl, h⟩
      rw [sh0.1, sh0.2.1, sh0.2.2]
      replace hX := hX.trans h
      clear h
      go_wp2_with fail
      refine (number_any 0 0 _).mono ?_
      rintro e v2 ⟨rfl, h⟩
      replace hX := hX.trans h
      clear h
      go_wp2_with fail
      refine (short_any 34813 _ (by omega) (by omega)).mono ?_
      rintro e v3 ⟨rfl, h⟩
      rw [sh34813.1, sh34813.2.1, sh34813.2.2]
      replace hX := hX.trans h
      clear h
      go_wp2_with fail
      refine (number_any 2045 (-8) _).mono ?_
      rintro e v4 ⟨rfl, h⟩
      replace hX := hX.trans h
      clear h
      go_wp2_with fail
      refine (short_any 30723 _ (by omega) (by omega)).mono ?_
      rintro e v5 ⟨rfl, h⟩
      rw [sh30723.1, sh30723.2.1, sh30723.2.2]
      replace hX := hX.trans h
      clear h
      go_wp2_with fail
      refine (number_any (-2045) 7 _).mono ?_
      rintro e v6 ⟨rfl, h⟩
      replace hX := hX.trans h
      clear h
      go_wp2_with fail
      refine (long_any 2139095037 _ (by omega) (by omega)).mono ?_
      rintro e v7 ⟨rfl, h⟩
      rw [lo2139095037.1, lo2139095037.2.1, lo2139095037.2.2]
      replace hX := hX.trans h
      clear h
      go_wp2_with fail
      refine (number_any 8388605 127 _).mono ?_
      rintro e v8 ⟨rfl, h⟩
      replace hX := hX.trans h
      clear h
      go_wp2_with fail
      refine (long_any 2155872259 _ (by omega) (by omega)).mono ?_
      rintro e v9 ⟨rfl, h⟩
      rw [lo2155872259.1, lo2155872259.2.1, lo2155872259.2.2]
      replace hX := hX.trans h
      clear h
      go_wp2_with fail
      refine (number_any (-8388605) (-128) _).mono ?_
      rintro e v10 ⟨rfl, h⟩
      replace hX := hX.trans h
      clear h
      have hinf := run_inf
      have hminf := run_minf
      obtain ⟨q, hq⟩ := kc12 hX
      have c' := hideIt q
      have hX' := hideIt hX
      generalize hp : w12.heap.size = p at *
      clear hX q
      go_wp2_with fail
      go_region_held3 (fun W => W.cell? ⟨p, 0, none⟩ = some (.int .i64 1) ∧ W.cell? ⟨p, 1, none⟩ = some (.int .i64 0) ∧ W.cell? ⟨p, 2, none⟩ = some (.int .i64 0) ∧ W.cell? ⟨p, 6, none⟩ = some (.int .i64 3) ∧ W.cell? ⟨p, 7, none⟩ = some (.int .i64 0) ∧ W.cell? ⟨p, 8, none⟩ = some (.int .i64 0) ∧ W.cell? ⟨p, 9, none⟩ = some (.int .i64 4) ∧ W.cell? ⟨p, 10, none⟩ = some (.int .i64 0) ∧ W.cell? ⟨p, 11, none⟩ = some (.int .i64 0) ∧ W.cell? ⟨p, 12, none⟩ = some (.int .i64 5) ∧ W.cell? ⟨p, 13, none⟩ = some (.int .i64 0) ∧ W.cell? ⟨p, 14, none⟩ = some (.int .i64 0) ∧ After v10 W)
        (first | exact keep12 after_drew c'.out After.rfl | exact keep12b hc (by assumption) | assumption)
        (first | (go_at_call 7; refine (number_any _ _ _).mono ?_; rintro e' wc ⟨rfl, hc⟩) | (go_at_call 8; refine (float_all _ _ _ _).mono ?_; rintro e' wc ⟨b, rfl, hb, hc⟩; (first | (obtain rfl := hb.f3) | (obtain rfl := hb.f4) | (obtain rfl := hb.f366) | (obtain rfl := hb.f09) | (obtain rfl := hb.f53) | (have hn := hb.f1; clear hb) | (have hn := hb.f5; clear hb) | (have hn := hb.fbig; clear hb))) | (go_at_call 9; refine (same_any 0 0 _ same00).mono ?_; rintro e' wc ⟨rfl, rfl⟩; have hc := After.rfl (w := wc)))
      have hX : After (kX w12) wc := hX'.out.trans (last12 (by assumption))
      rw [o53]
      have H0 : After w (kX w12) := (HA.alloc _).alloc _
      replace hX := H0.trans hX
      clear hX' c' H0 hp HA hinf hminf
      go_wp2_with fail
      refine (number_any 5 (-4) _).mono ?_
      rintro e v11 ⟨rfl, h⟩
      replace hX := hX.trans h
      clear h
      go_wp2_with fail
      refine (thousandths_any 0 5 (-4) _).mono ?_
      rintro e v12 ⟨rfl, h⟩
      rw [th5_n4]
      replace hX := hX.trans h
      clear h
      go_wp2_with fail
      refine (number_any (-5) (-4) _).mono ?_
      rintro e v13 ⟨rfl, h⟩
      replace hX := hX.trans h
      clear h
      go_wp2_with fail
      refine (thousandths_any 0 (-5) (-4) _).mono ?_
      rintro e v14 ⟨rfl, h⟩
      rw [thn5_n4]
      replace hX := hX.trans h
      clear h
      go_wp2_with fail
      refine (number_any 4 (-4) _).mono ?_
      rintro e v15 ⟨rfl, h⟩
      replace hX := hX.trans h
      clear h
      go_wp2_with fail
      refine (thousandths_any 0 4 (-4) _).mono ?_
      rintro e v16 ⟨rfl, h⟩
      rw [th4_n4]
      replace hX := hX.trans h
      clear h
      go_wp2_with fail
      refine (number_any 1 127 _).mono ?_
      rintro e v17 ⟨rfl, h⟩
      replace hX := hX.trans h
      clear h
      go_wp2_with fail
      refine (thousandths_any 0 1 127 _).mono ?_
      rintro e v18 ⟨rfl, h⟩
      rw [th1_127]
      replace hX := hX.trans h
      clear h
      go_wp2_with fail
      refine (number_any (-1) 127 _).mono ?_
      rintro e v19 ⟨rfl, h⟩
      replace hX := hX.trans h
      clear h
      go_wp2_with fail
      refine (thousandths_any 0 (-1) 127 _).mono ?_
      rintro e v20 ⟨rfl, h⟩
      rw [thn1_127]
      replace hX := hX.trans h
      clear h
      go_wp2_with fail
      refine (number_any 0 127 _).mono ?_
      rintro e v21 ⟨rfl, h⟩
      replace hX := hX.trans h
      clear h
      go_wp2_with fail
      refine (thousandths_any 0 0 127 _).mono ?_
      rintro e v22 ⟨rfl, h⟩
      rw [th0_127]
      replace hX := hX.trans h
      clear h
      go_wp2_with fail
      refine (number_any 8388605 (-128) _).mono ?_
      rintro e v23 ⟨rfl, h⟩
      replace hX := hX.trans h
      clear h
      go_wp2_with fail
      refine (thousandths_any 0 8388605 (-128) _).mono ?_
      rintro e v24 ⟨rfl, h⟩
      rw [th8388605_n128]
      replace hX := hX.trans h
      clear h
      go_wp2_with fail
      refine (number_any 2147483 0 _).mono ?_
      rintro e v25 ⟨rfl, h⟩
      replace hX := hX.trans h
      clear h
      go_wp2_with fail
      refine (thousandths_any 0 2147483 0 _).mono ?_
      rintro e v26 ⟨rfl, h⟩
      rw [th2147483_0]
      replace hX := hX.trans h
      clear h
      go_wp2_with fail
      refine (number_any 2147484 0 _).mono ?_
      rintro e v27 ⟨rfl, h⟩
      replace hX := hX.trans h
      clear h
      go_wp2_with fail
      refine (thousandths_any 0 2147484 0 _).mono ?_
      rintro e v28 ⟨rfl, h⟩
      rw [th2147484_0]
      replace hX := hX.trans h
      clear h
      go_wp2_with fail
      refine (number_any 8388605 (-10) _).mono ?_
      rintro e v29 ⟨rfl, h⟩
      replace hX := hX.trans h
      clear h
      go_wp2_with fail
      refine (thousandths_any 0 8388605 (-10) _).mono ?_
      rintro e v30 ⟨rfl, h⟩
      rw [th8388605_n10]
      replace hX := hX.trans h
      clear h
      go_wp2_with fail
      refine (number_any 4999999 (-10) _).mono ?_
      rintro e v31 ⟨rfl, h⟩
      replace hX := hX.trans h
      clear h
      go_wp2_with fail
      refine (thousandths_any 0 4999999 (-10) _).mono ?_
      rintro e v32 ⟨rfl, h⟩
      rw [th4999999_n10]
      replace hX := hX.trans h
      clear h
      go_wp2_with fail
      refine (number_any 5000000 (-10) _).mono ?_
      rintro e v33 ⟨rfl, h⟩
      replace hX := hX.trans h
      clear h
      go_wp2_with fail
      refine (thousandths_any 0 5000000 (-10) _).mono ?_
      rintro e v34 ⟨rfl, h⟩
      rw [th5000000_n10]
      replace hX := hX.trans h
      clear h
      go_wp2_with fail
      refine (number_any 2046 0 _).mono ?_
      rintro e v35 ⟨rfl, h⟩
      replace hX := hX.trans h
      clear h
      go_wp2_with fail
      refine (number_any 1 8 _).mono ?_
      rintro e v36 ⟨rfl, h⟩
      replace hX := hX.trans h
      clear h
      go_wp2_with fail
      refine (number_any 1 (-9) _).mono ?_
      rintro e v37 ⟨rfl, h⟩
      replace hX := hX.trans h
      clear h
      go_wp2_with fail
      refine (number_any 8388606 0 _).mono ?_
      rintro e v38 ⟨rfl, h⟩
      replace hX := hX.trans h
      clear h
      go_wp2_with fail
      refine (number_any 0 128 _).mono ?_
      rintro e v39 ⟨rfl, h⟩
      replace hX := hX.trans h
      clear h
      have HH := hideIt hX
      clear hX
      obtain ⟨i0, hi, hz0, hz1, hz2⟩ := info_parts info3
      go_wp2_with fail
      go_loopw [8, 215] (fun got i W => ∃ k : Nat, k ≤ 10 ∧ i = .int .i64 k ∧ W.ownsRow (v39.heap.size + 1) 3 1 got (2 * k) (vals (Glist.take (2 * k))) ∧ After (rX v39) W) (fun _ i _ => 10 - (intOf i).toNat)
      case atStart => exact ⟨0, by decide, rfl, World.ownsRow_nil _ _ _ _, After.rfl⟩
      case round =>
        obtain ⟨k, hk, rfl, hown, hX⟩ := hrel
        have HO := hideIt hown
        clear hown
        by_cases hlt : k < 10
        · have hk' : k = 0 ∨ k = 1 ∨ k = 2 ∨ k = 3 ∨ k = 4 ∨ k = 5 ∨ k = 6 ∨ k = 7 ∨ k = 8 ∨ k = 9 := by omega
          clear hk hlt
          rcases hk' with rfl | rfl | rfl | rfl | rfl | rfl | rfl | rfl | rfl | rfl
          · obtain ⟨q0, q1, q2⟩ := rc0 hX
            have HX := hideIt hX
            clear hX
            go_wp2_with fail
            refine (packShort_any 0 2046 0 _).mono ?_
            rintro e' w1 ⟨rfl, h1⟩
            rw [ps0.1, ps0.2]
            have A1 := hideIt ((After.rfl.alloc (.cells #[.int .i64 0, .int .i64 2046, .int .i64 0] 24)).trans h1)
            clear h1 q0 q1 q2
            go_wp2_with (at_builtin; refine wpList_append_own _ rfl (.tmp 224) (.tmp 228) 30 rfl (v39.heap.size + 1) 3 i0 (.int .i64 0) 1 8 Try.underlying30 hi hz0 hz1 hz2 rfl (by decide) _ _ _ rfl (own_after HO.out (A1.out.alloc _)) ⟨w1.heap.size, 0, none⟩ 2 2 [.int .i64 0, .int .i64 9] rfl rfl (two_new _ _ _) (two_one _ _) (by decide) (by decide) (rX_le HX.out (A1.out.alloc _)) ?_)
            intro v2 w2 hown2 hgrow2 _
            have HB := hideIt (rX_rel HX.out HO.out (A1.out.alloc _) hgrow2)
            have HO2 := hideIt hown2
            clear hown2 hgrow2
            go_wp2
            go_roundw
            case rel => exact ⟨1, by decide, rfl, HO2.out, HB.out⟩
            case measure => decide
          · obtain ⟨q0, q1, q2⟩ := rc1 hX
            have HX := hideIt hX
            clear hX
            go_wp2_with fail
            refine (packShort_any 0 1 8 _).mono ?_
            rintro e' w1 ⟨rfl, h1⟩
            rw [ps1.1, ps1.2]
            have A1 := hideIt ((After.rfl.alloc (.cells #[.int .i64 0, .int .i64 1, .int .i64 8] 24)).trans h1)
            clear h1 q0 q1 q2
            go_wp2_with (at_builtin; refine wpList_append_own _ rfl (.tmp 224) (.tmp 228) 30 rfl (v39.heap.size + 1) 3 i0 (.int .i64 0) 1 8 Try.underlying30 hi hz0 hz1 hz2 rfl (by decide) _ _ _ rfl (own_after HO.out (A1.out.alloc _)) ⟨w1.heap.size, 0, none⟩ 2 2 [.int .i64 0, .int .i64 9] rfl rfl (two_new _ _ _) (two_one _ _) (by decide) (by decide) (rX_le HX.out (A1.out.alloc _)) ?_)
            intro v2 w2 hown2 hgrow2 _
            have HB := hideIt (rX_rel HX.out HO.out (A1.out.alloc _) hgrow2)
            have HO2 := hideIt hown2
            clear hown2 hgrow2
            go_wp2
            go_roundw
            case rel => exact ⟨2, by decide, rfl, HO2.out, HB.out⟩
            case measure => decide
          · obtain ⟨q0, q1, q2⟩ := rc2 hX
            have HX := hideIt hX
            clear hX
            go_wp2_with fail
            refine (packShort_any 0 1 (-9) _).mono ?_
            rintro e' w1 ⟨rfl, h1⟩
            rw [ps2.1, ps2.2]
            have A1 := hideIt ((After.rfl.alloc (.cells #[.int .i64 0, .int .i64 1, .int .i64 (-9)] 24)).trans h1)
            clear h1 q0 q1 q2
            go_wp2_with (at_builtin; refine wpList_append_own _ rfl (.tmp 224) (.tmp 228) 30 rfl (v39.heap.size + 1) 3 i0 (.int .i64 0) 1 8 Try.underlying30 hi hz0 hz1 hz2 rfl (by decide) _ _ _ rfl (own_after HO.out (A1.out.alloc _)) ⟨w1.heap.size, 0, none⟩ 2 2 [.int .i64 0, .int .i64 9] rfl rfl (two_new _ _ _) (two_one _ _) (by decide) (by decide) (rX_le HX.out (A1.out.alloc _)) ?_)
            intro v2 w2 hown2 hgrow2 _
            have HB := hideIt (rX_rel HX.out HO.out (A1.out.alloc _) hgrow2)
            have HO2 := hideIt hown2
            clear hown2 hgrow2
            go_wp2
            go_roundw
            case rel => exact ⟨3, by decide, rfl, HO2.out, HB.out⟩
            case measure => decide
          · obtain ⟨q0, q1, q2⟩ := rc3 hX
            have HX := hideIt hX
            clear hX
            go_wp2_with fail
            refine (packShort_any 3 0 0 _).mono ?_
            rintro e' w1 ⟨rfl, h1⟩
            rw [ps3.1, ps3.2]
            have A1 := hideIt ((After.rfl.alloc (.cells #[.int .i64 3, .int .i64 0, .int .i64 0] 24)).trans h1)
            clear h1 q0 q1 q2
            go_wp2_with (at_builtin; refine wpList_append_own _ rfl (.tmp 224) (.tmp 228) 30 rfl (v39.heap.size + 1) 3 i0 (.int .i64 0) 1 8 Try.underlying30 hi hz0 hz1 hz2 rfl (by decide) _ _ _ rfl (own_after HO.out (A1.out.alloc _)) ⟨w1.heap.size, 0, none⟩ 2 2 [.int .i64 2046, .int .i64 0] rfl rfl (two_new _ _ _) (two_one _ _) (by decide) (by decide) (rX_le HX.out (A1.out.alloc _)) ?_)
            intro v2 w2 hown2 hgrow2 _
            have HB := hideIt (rX_rel HX.out HO.out (A1.out.alloc _) hgrow2)
            have HO2 := hideIt hown2
            clear hown2 hgrow2
            go_wp2
            go_roundw
            case rel => exact ⟨4, by decide, rfl, HO2.out, HB.out⟩
            case measure => decide
          · obtain ⟨q0, q1, q2⟩ := rc4 hX
            have HX := hideIt hX
            clear hX
            go_wp2_with fail
            refine (packShort_any 1 0 1 _).mono ?_
            rintro e' w1 ⟨rfl, h1⟩
            rw [ps4.1, ps4.2]
            have A1 := hideIt ((After.rfl.alloc (.cells #[.int .i64 1, .int .i64 0, .int .i64 1] 24)).trans h1)
            clear h1 q0 q1 q2
            go_wp2_with (at_builtin; refine wpList_append_own _ rfl (.tmp 224) (.tmp 228) 30 rfl (v39.heap.size + 1) 3 i0 (.int .i64 0) 1 8 Try.underlying30 hi hz0 hz1 hz2 rfl (by decide) _ _ _ rfl (own_after HO.out (A1.out.alloc _)) ⟨w1.heap.size, 0, none⟩ 2 2 [.int .i64 0, .int .i64 2] rfl rfl (two_new _ _ _) (two_one _ _) (by decide) (by decide) (rX_le HX.out (A1.out.alloc _)) ?_)
            intro v2 w2 hown2 hgrow2 _
            have HB := hideIt (rX_rel HX.out HO.out (A1.out.alloc _) hgrow2)
            have HO2 := hideIt hown2
            clear hown2 hgrow2
            go_wp2
            go_roundw
            case rel => exact ⟨5, by decide, rfl, HO2.out, HB.out⟩
            case measure => decide
          · obtain ⟨q0, q1, q2⟩ := rc5 hX
            have HX := hideIt hX
            clear hX
            go_wp2_with fail
            refine (packShort_any 6 0 0 _).mono ?_
            rintro e' w1 ⟨rfl, h1⟩
            rw [ps5.1, ps5.2]
            have A1 := hideIt ((After.rfl.alloc (.cells #[.int .i64 6, .int .i64 0, .int .i64 0] 24)).trans h1)
            clear h1 q0 q1 q2
            go_wp2_with (at_builtin; refine wpList_append_own _ rfl (.tmp 224) (.tmp 228) 30 rfl (v39.heap.size + 1) 3 i0 (.int .i64 0) 1 8 Try.underlying30 hi hz0 hz1 hz2 rfl (by decide) _ _ _ rfl (own_after HO.out (A1.out.alloc _)) ⟨w1.heap.size, 0, none⟩ 2 2 [.int .i64 0, .int .i64 2] rfl rfl (two_new _ _ _) (two_one _ _) (by decide) (by decide) (rX_le HX.out (A1.out.alloc _)) ?_)
            intro v2 w2 hown2 hgrow2 _
            have HB := hideIt (rX_rel HX.out HO.out (A1.out.alloc _) hgrow2)
            have HO2 := hideIt hown2
            clear hown2 hgrow2
            go_wp2
            go_roundw
            case rel => exact ⟨6, by decide, rfl, HO2.out, HB.out⟩
            case measure => decide
          · obtain ⟨q0, q1, q2⟩ := rc6 hX
            have HX := hideIt hX
            clear hX
            go_wp2_with fail
            refine (packShort_any (-1) 0 0 _).mono ?_
            rintro e' w1 ⟨rfl, h1⟩
            rw [ps6.1, ps6.2]
            have A1 := hideIt ((After.rfl.alloc (.cells #[.int .i64 (-1), .int .i64 0, .int .i64 0] 24)).trans h1)
            clear h1 q0 q1 q2
            go_wp2_with (at_builtin; refine wpList_append_own _ rfl (.tmp 224) (.tmp 228) 30 rfl (v39.heap.size + 1) 3 i0 (.int .i64 0) 1 8 Try.underlying30 hi hz0 hz1 hz2 rfl (by decide) _ _ _ rfl (own_after HO.out (A1.out.alloc _)) ⟨w1.heap.size, 0, none⟩ 2 2 [.int .i64 0, .int .i64 2] rfl rfl (two_new _ _ _) (two_one _ _) (by decide) (by decide) (rX_le HX.out (A1.out.alloc _)) ?_)
            intro v2 w2 hown2 hgrow2 _
            have HB := hideIt (rX_rel HX.out HO.out (A1.out.alloc _) hgrow2)
            have HO2 := hideIt hown2
            clear hown2 hgrow2
            go_wp2
            go_roundw
            case rel => exact ⟨7, by decide, rfl, HO2.out, HB.out⟩
            case measure => decide
          · obtain ⟨q0, q1, q2⟩ := rc7 hX
            have HX := hideIt hX
            clear hX
            go_wp2_with fail
            refine (packShort_any 0 8388606 0 _).mono ?_
            rintro e' w1 ⟨rfl, h1⟩
            rw [ps7.1, ps7.2]
            have A1 := hideIt ((After.rfl.alloc (.cells #[.int .i64 0, .int .i64 8388606, .int .i64 0] 24)).trans h1)
            clear h1 q0 q1 q2
            go_wp2_with (at_builtin; refine wpList_append_own _ rfl (.tmp 224) (.tmp 228) 30 rfl (v39.heap.size + 1) 3 i0 (.int .i64 0) 1 8 Try.underlying30 hi hz0 hz1 hz2 rfl (by decide) _ _ _ rfl (own_after HO.out (A1.out.alloc _)) ⟨w1.heap.size, 0, none⟩ 2 2 [.int .i64 0, .int .i64 2] rfl rfl (two_new _ _ _) (two_one _ _) (by decide) (by decide) (rX_le HX.out (A1.out.alloc _)) ?_)
            intro v2 w2 hown2 hgrow2 _
            have HB := hideIt (rX_rel HX.out HO.out (A1.out.alloc _) hgrow2)
            have HO2 := hideIt hown2
            clear hown2 hgrow2
            go_wp2
            go_roundw
            case rel => exact ⟨8, by decide, rfl, HO2.out, HB.out⟩
            case measure => decide
          · obtain ⟨q0, q1, q2⟩ := rc8 hX
            have HX := hideIt hX
            clear hX
            go_wp2_with fail
            refine (packShort_any 0 0 128 _).mono ?_
            rintro e' w1 ⟨rfl, h1⟩
            rw [ps8.1, ps8.2]
            have A1 := hideIt ((After.rfl.alloc (.cells #[.int .i64 0, .int .i64 0, .int .i64 128] 24)).trans h1)
            clear h1 q0 q1 q2
            go_wp2_with (at_builtin; refine wpList_append_own _ rfl (.tmp 224) (.tmp 228) 30 rfl (v39.heap.size + 1) 3 i0 (.int .i64 0) 1 8 Try.underlying30 hi hz0 hz1 hz2 rfl (by decide) _ _ _ rfl (own_after HO.out (A1.out.alloc _)) ⟨w1.heap.size, 0, none⟩ 2 2 [.int .i64 0, .int .i64 2] rfl rfl (two_new _ _ _) (two_one _ _) (by decide) (by decide) (rX_le HX.out (A1.out.alloc _)) ?_)
            intro v2 w2 hown2 hgrow2 _
            have HB := hideIt (rX_rel HX.out HO.out (A1.out.alloc _) hgrow2)
            have HO2 := hideIt hown2
            clear hown2 hgrow2
            go_wp2
            go_roundw
            case rel => exact ⟨9, by decide, rfl, HO2.out, HB.out⟩
            case measure => decide
          · obtain ⟨q0, q1, q2⟩ := rc9 hX
            have HX := hideIt hX
            clear hX
            go_wp2_with fail
            refine (packShort_any 2 0 0 _).mono ?_
            rintro e' w1 ⟨rfl, h1⟩
            rw [ps9.1, ps9.2]
            have A1 := hideIt ((After.rfl.alloc (.cells #[.int .i64 2, .int .i64 0, .int .i64 0] 24)).trans h1)
            clear h1 q0 q1 q2
            go_wp2_with (at_builtin; refine wpList_append_own _ rfl (.tmp 224) (.tmp 228) 30 rfl (v39.heap.size + 1) 3 i0 (.int .i64 0) 1 8 Try.underlying30 hi hz0 hz1 hz2 rfl (by decide) _ _ _ rfl (own_after HO.out (A1.out.alloc _)) ⟨w1.heap.size, 0, none⟩ 2 2 [.int .i64 2048, .int .i64 0] rfl rfl (two_new _ _ _) (two_one _ _) (by decide) (by decide) (rX_le HX.out (A1.out.alloc _)) ?_)
            intro v2 w2 hown2 hgrow2 _
            have HB := hideIt (rX_rel HX.out HO.out (A1.out.alloc _) hgrow2)
            have HO2 := hideIt hown2
            clear hown2 hgrow2
            go_wp2
            go_roundw
            case rel => exact ⟨10, by decide, rfl, HO2.out, HB.out⟩
            case measure => decide
        · obtain rfl : k = 10 := by omega
          clear hk hlt
          obtain ⟨gg, cap, rfl⟩ := own_shape3 HO.out (by decide)
          have hX2 := hideIt (HH.out.trans ((After.rfl.alloc _).trans hX))
          clear HH hX
          have c1 := own_cells (l := Glist) (n := 20) (by decide) HO.out
          have C1 := hideIt c1
          clear c1 HO
          go_wp2_with fail
          refine (eqInts_same gg wr.heap.size cap 20 20 (fun j => Glist.getD j 0) _ (by decide) (fun j hj => (After.rfl.alloc _).keep (C1.out j hj)) (new_cells wr Glist rfl (by decide))).mono ?_
          rintro e u1 ⟨rfl, m, rfl⟩
          have hX := (hX2.out.alloc (.cells (vals Glist).toArray 3)).draws m
          clear hX2 C1
          go_wp2_with fail
          refine (number_any 8388605 127 _).mono ?_
          rintro e v40 ⟨rfl, h⟩
          replace hX := hX.trans h
          clear h
          go_wp2_with fail
          refine (packLong_any 0 8388605 127 _).mono ?_
          rintro e v41 ⟨rfl, h⟩
          rw [pl0_8388605_127.1, pl0_8388605_127.2]
          replace hX := hX.trans h
          clear h
          go_wp2_with fail
          refine (packLong_any 4 0 0 _).mono ?_
          rintro e v42 ⟨rfl, h⟩
          rw [pl4_0_0.1, pl4_0_0.2]
          replace hX := hX.trans h
          clear h
          go_wp2_with fail
          refine (number_any 8388606 0 _).mono ?_
          rintro e v43 ⟨rfl, h⟩
          replace hX := hX.trans h
          clear h
          go_wp2_with fail
          refine (packLong_any 0 8388606 0 _).mono ?_
          rintro e v44 ⟨rfl, h⟩
          rw [pl0_8388606_0.1, pl0_8388606_0.2]
          replace hX := hX.trans h
          clear h
          go_wp2_with fail
          refine (of_any 0 _).mono ?_
          rintro e v45 ⟨rfl, h⟩
          rw [of0.1, of0.2]
          replace hX := hX.trans h
          clear h
          go_wp2_with fail
          refine (number_any 0 0 _).mono ?_
          rintro e v46 ⟨rfl, h⟩
          replace hX := hX.trans h
          clear h
          go_wp2_with fail
          refine (of_any (-5) _).mono ?_
          rintro e v47 ⟨rfl, h⟩
          rw [ofn5.1, ofn5.2]
          replace hX := hX.trans h
          clear h
          go_wp2_with fail
          refine (number_any (-5) (-3) _).mono ?_
          rintro e v48 ⟨rfl, h⟩
          replace hX := hX.trans h
          clear h
          go_wp2_with fail
          refine (of_any 2147483647 _).mono ?_
          rintro e v49 ⟨rfl, h⟩
          rw [of2147483647.1, of2147483647.2]
          replace hX := hX.trans h
          clear h
          go_wp2_with fail
          refine (number_any 2147484 0 _).mono ?_
          rintro e v50 ⟨rfl, h⟩
          replace hX := hX.trans h
          clear h
          go_wp2_with fail
          refine (of_any 10000000 _).mono ?_
          rintro e v51 ⟨rfl, h⟩
          rw [of10000000.1, of10000000.2]
          replace hX := hX.trans h
          clear h
          go_wp2_with fail
          refine (number_any 1 4 _).mono ?_
          rintro e v52 ⟨rfl, h⟩
          replace hX := hX.trans h
          clear h
          go_wp2_with fail
          refine (of_any (-9223372036854775808) _).mono ?_
          rintro e v53 ⟨rfl, h⟩
          rw [ofn9223372036854775808.1, ofn9223372036854775808.2]
          replace hX := hX.trans h
          clear h
          go_wp2_with fail
          refine (number_any (-2147484) 0 _).mono ?_
          rintro e v54 ⟨rfl, h⟩
          replace hX := hX.trans h
          clear h
          go_wp2_with fail
          refine (of_any 8388605 _).mono ?_
          rintro e v55 ⟨rfl, h⟩
          rw [of8388605.1, of8388605.2]
          replace hX := hX.trans h
          clear h
          go_wp2_with fail
          refine (number_any 8388605 (-3) _).mono ?_
          rintro e v56 ⟨rfl, h⟩
          replace hX := hX.trans h
          clear h
          go_wp2_with fail
          refine (of_any 8388606 _).mono ?_
          rintro e v57 ⟨rfl, h⟩
          rw [of8388606.1, of8388606.2]
          replace hX := hX.trans h
          clear h
          go_wp2_with fail
          refine (number_any 838861 (-2) _).mono ?_
          rintro e v58 ⟨rfl, h⟩
          replace hX := hX.trans h
          clear h
          go_wp2_with fail
          refine (works_any _).mono ?_
          rintro e v59 ⟨rfl, h⟩
          replace hX := hX.trans h
          clear h
          have HZ := hideIt hX
          clear hX
          go_wp2
          go_ret
          exact ⟨rfl, HZ.out⟩
end Go.Proofs.Ytjblckljbgelaab
