/-
  Rows of structs of three cells: made, copied, read, stored into.
-/
import Derived.Test.YtigiakhdaaoljaaOnes
import Derived.Laws.MakeOwn
import Derived.Laws.CopyOwn
namespace Go.Proofs.Ytigiakhdaaoljaa
open Go.RowKit
set_option maxRecDepth 8000
/-- Three cells. -/
abbrev T3 := Value × Value × Value
def cells3 : List T3 → List Value
  | [] => []
  | x :: r => x.1 :: x.2.1 :: x.2.2 :: cells3 r
def One3 (x : T3) : Prop := x.1.oneCell' = true ∧ x.2.1.oneCell' = true ∧ x.2.2.oneCell' = true
theorem cells3_length (xs : List T3) : (cells3 xs).length = xs.length * 3 := by
  induction xs with
  | nil => rfl
  | cons x r ih => simp only [cells3, List.length_cons, ih]; omega
theorem cells3_at (xs : List T3) (i : Nat) (x : T3) (h : xs[i]? = some x) : (cells3 xs)[i * 3]? = some x.1 ∧ (cells3 xs)[i * 3 + 1]? = some x.2.1 ∧ (cells3 xs)[i * 3 + 2]? = some x.2.2 := by
  induction xs generalizing i with
  | nil => simp at h
  | cons y r ih =>
    cases i with
    | zero => simp at h; subst h; exact ⟨rfl, rfl, rfl⟩
    | succ i =>
      have := ih i (by simpa using h)
      have e : (i + 1) * 3 = i * 3 + 1 + 1 + 1 := by omega
      rw [e]
      exact this
theorem cells3_set (xs : List T3) (i : Nat) (x : T3) : cells3 (xs.set i x) = (((cells3 xs).set (i * 3) x.1).set (i * 3 + 1) x.2.1).set (i * 3 + 2) x.2.2 := by
  induction xs generalizing i with
  | nil => rfl
  | cons y r ih =>
    cases i with
    | zero => rfl
    | succ i =>
      have e : (i + 1) * 3 = i * 3 + 1 + 1 + 1 := by omega
      rw [e]
      show y.1 :: y.2.1 :: y.2.2 :: cells3 (r.set i x) = _
      rw [ih]
      rfl
theorem cells3_append (xs ys : List T3) : cells3 (xs ++ ys) = cells3 xs ++ cells3 ys := by
  induction xs with
  | nil => rfl
  | cons x r ih => simp only [List.cons_append, cells3, ih]
theorem cells3_take (xs : List T3) (k : Nat) : (cells3 xs).take (k * 3) = cells3 (xs.take k) := by
  induction xs generalizing k with
  | nil => simp [cells3]
  | cons x r ih =>
    cases k with
    | zero => simp [cells3]
    | succ k =>
      have e : (k + 1) * 3 = k * 3 + 1 + 1 + 1 := by omega
      rw [e]
      simp only [cells3, List.take_succ_cons, ih]
theorem cells3_drop (xs : List T3) (k : Nat) : (cells3 xs).drop (k * 3) = cells3 (xs.drop k) := by
  induction xs generalizing k with
  | nil => simp [cells3]
  | cons x r ih =>
    cases k with
    | zero => simp
    | succ k =>
      have e : (k + 1) * 3 = k * 3 + 1 + 1 + 1 := by omega
      rw [e]
      simp only [cells3, List.drop_succ_cons, ih]
theorem cells3_one {xs : List T3} (h : ∀ x ∈ xs, One3 x) : ∀ v ∈ cells3 xs, v.oneCell' = true := by
  induction xs with
  | nil => intro v hv; cases hv
  | cons x r ih =>
    intro v hv
    have hx := h x (List.mem_cons_self ..)
    simp only [cells3, List.mem_cons] at hv
    rcases hv with rfl | rfl | rfl | hv
    · exact hx.1
    · exact hx.2.1
    · exact hx.2.2
    · exact ih (fun y hy => h y (List.mem_cons_of_mem _ hy)) v hv
theorem made3 (x y z : Value) (k : Nat) : madeCells #[x, y, z] (k * 3) = (cells3 (List.replicate k (x, y, z))).toArray := by
  apply Array.ext'
  apply List.ext_getElem?
  intro j
  by_cases hj : j < k * 3
  · obtain ⟨i, t, ht, rfl⟩ : ∃ i t, t < 3 ∧ j = i * 3 + t := ⟨j / 3, j % 3, by omega, by omega⟩
    have hi : i < k := by omega
    obtain ⟨e0, e1, e2⟩ := cells3_at (List.replicate k (x, y, z)) i (x, y, z) (by simp [hi])
    have hm : (i * 3 + t) % 3 = t := by omega
    have : t = 0 ∨ t = 1 ∨ t = 2 := by omega
    rcases this with rfl | rfl | rfl
    · simp only [Nat.add_zero] at *; rw [show ((cells3 (List.replicate k (x, y, z))).toArray.toList)[i * 3]? = some x from e0]; simp [madeCells]; exact ⟨i * 3, List.getElem?_range hj, by rw [hm]; rfl⟩
    · rw [show ((cells3 (List.replicate k (x, y, z))).toArray.toList)[i * 3 + 1]? = some y from e1]; simp [madeCells]; exact ⟨i * 3 + 1, List.getElem?_range hj, by rw [hm]; rfl⟩
    · rw [show ((cells3 (List.replicate k (x, y, z))).toArray.toList)[i * 3 + 2]? = some z from e2]; simp [madeCells]; exact ⟨i * 3 + 2, List.getElem?_range hj, by rw [hm]; rfl⟩
  · have h2 := cells3_length (List.replicate k (x, y, z))
    rw [List.length_replicate] at h2
    rw [List.getElem?_eq_none (by simp [madeCells]; omega), List.getElem?_eq_none (by simp; omega)]
/-- Structs lie where a slice of n places leads. -/
def RowT (w : World) (a : Option Addr) (n : Nat) (xs : List T3) : Prop :=
  xs.length = n ∧ ∀ i, i < n → ∃ b off x, a = some ⟨b, off, none⟩ ∧ b < w.heap.size ∧ xs[i]? = some x ∧ w.cell? ⟨b, off + i * 3, none⟩ = some x.1 ∧ w.cell? ⟨b, off + i * 3 + 1, none⟩ = some x.2.1 ∧ w.cell? ⟨b, off + i * 3 + 2, none⟩ = some x.2.2
theorem RowT.but {S : Nat → Prop} {w w' : World} {a n xs} (h : RowT w a n xs) (hb : But S w w') (hn : ∀ y, a = some y → 0 < n → ¬ S y.block) : RowT w' a n xs :=
  ⟨h.1, fun i hi => by
    obtain ⟨b, off, x, e, hl, hx, h1, h2, h3⟩ := h.2 i hi
    have := hn _ e (by omega)
    exact ⟨b, off, x, e, Nat.lt_of_lt_of_le hl hb.size, hx, by rw [hb.cell hl this]; exact h1, by rw [hb.cell hl this]; exact h2, by rw [hb.cell hl this]; exact h3⟩⟩
theorem RowT.after {w w' : World} {a n xs} (h : RowT w a n xs) (hb : After w w') : RowT w' a n xs := h.but hb (fun _ _ _ t => t)
theorem RowT.nil (w : World) (a : Option Addr) : RowT w a 0 [] := ⟨rfl, fun i hi => absurd hi (by omega)⟩
theorem cell_blk {w : World} {b i : Nat} {A : List Value} {T : TypeId} (h : w.heap[b]? = some (.cells A.toArray T (0, 0))) : w.cell? ⟨b, i, none⟩ = A[i]? := by
  simp [World.cell?, h]
theorem frozen_blk {w : World} {b : Nat} {A : Array Value} {T : TypeId} (h : w.heap[b]? = some (.cells A T (0, 0))) (i : Nat) : w.frozen? ⟨b, i, none⟩ = false := by
  simp [World.frozen?, h]
theorem RowT.of {w : World} {b : Nat} {xs : List T3} {T : TypeId} (h : w.heap[b]? = some (.cells (cells3 xs).toArray T (0, 0))) : RowT w (some ⟨b, 0, none⟩) xs.length xs :=
  ⟨rfl, fun i hi => by
    obtain ⟨e0, e1, e2⟩ := cells3_at xs i xs[i] (by simp [hi])
    refine ⟨b, 0, xs[i], rfl, (Array.getElem?_eq_some_iff.1 h).1, by simp [hi], ?_, ?_, ?_⟩
    · rw [cell_blk h, Nat.zero_add]; exact e0
    · rw [cell_blk h, Nat.zero_add]; exact e1
    · rw [cell_blk h, Nat.zero_add]; exact e2⟩
theorem blk_set {w : World} {b i : Nat} {A : List Value} {T : TypeId} (h : w.heap[b]? = some (.cells A.toArray T (0, 0))) (v : Value) : (w.setCell ⟨b, i, none⟩ v).heap[b]? = some (.cells (A.set i v).toArray T (0, 0)) := by
  simp [World.setCell, Array.getElem?_modify, h]
theorem blk_set3 {w : World} {b i : Nat} {xs : List T3} {T : TypeId} (h : w.heap[b]? = some (.cells (cells3 xs).toArray T (0, 0))) (x y z : Value) :
    (((w.setCell ⟨b, i * 3, none⟩ x).setCell ⟨b, i * 3 + 1, none⟩ y).setCell ⟨b, i * 3 + 2, none⟩ z).heap[b]? = some (.cells (cells3 (xs.set i (x, y, z))).toArray T (0, 0)) := by
  rw [cells3_set]
  exact blk_set (blk_set (blk_set h x) y) z
theorem run_copy3 {P : Program} (w : World) (dT sT ty elem : TypeId) (g dLen dCap : Nat) (a : Addr) (sLen sCap : Nat) (cur : Array Value) (t : TypeId) (cs : List Value)
    (hu : P.underlying dT = some (.slice elem)) (hs : (P.info? elem).map (·.size) = some 3)
    (hg : w.heap[g]? = some (.cells cur t (0, 0))) (hn : cs.length = Nat.min sLen dLen * 3)
    (hsrc : ∀ j v, cs[j]? = some v → w.cell? (a.add j) = some v) (hfit : 0 + cs.length ≤ cur.size) (h1 : ∀ v ∈ cs, v.oneCell' = true) :
    (Builtin.copy_ #[dT, sT] ty #[.slice (some ⟨g, 0, none⟩) dLen dCap, .slice (some a) sLen sCap]).run P w =
      .ok (goInt (Nat.min sLen dLen)) (w.setRow g (cur.toList.take 0 ++ cs ++ cur.toList.drop (0 + cs.length)).toArray) := by
  have hl := run_loadCells_list (P := P) w a cs hsrc
  have hst := run_storeCells_at P g 0 t cs 0 cur w hg (by simpa using hfit) h1
  cases hq : P.info? elem with
  | none => simp [hq] at hs
  | some i =>
    have hi : i.size = 3 := by simpa [hq] using hs
    rw [hn] at hl
    simp [Builtin.copy_, run_underlying hu, Builtin.lenOf, Builtin.firstCells, sizeOf, typeInfo, hq, hi, hl]
    have hst' := hst
    simp at hst'
    rw [hst']
    rfl
theorem run_copyAny {P : Program} (w : World) (dT sT ty elem : TypeId) (hu : P.underlying dT = some (.slice elem)) (hsz : (P.info? elem).map (·.size) = some 3)
    (g k kc : Nat) (sp : Option Addr) (sLen sCap : Nat) (t : TypeId) (xs ys : List T3)
    (hg : w.heap[g]? = some (.cells (cells3 xs).toArray t (0, 0))) (hx : xs.length = k) (hy : RowT w sp sLen ys) (h1 : ∀ y ∈ ys, One3 y) (hnil : sp = none → sLen = 0 ∧ sCap = 0) :
    ∃ w', (Builtin.copy_ #[dT, sT] ty #[.slice (some ⟨g, 0, none⟩) k kc, .slice sp sLen sCap]).run P w = .ok (goInt (Nat.min sLen k)) w' ∧ w'.heap[g]? = some (.cells (cells3 (ys.take k ++ xs.drop sLen)).toArray t (0, 0)) ∧ But (One g) w w' := by
  cases sp with
  | none =>
    obtain ⟨rfl, rfl⟩ := hnil rfl
    obtain rfl : ys = [] := List.eq_nil_of_length_eq_zero hy.1
    have hrun := run_copy_nil (P := P) w dT sT ty elem ⟨g, 0, none⟩ k kc hu (by cases h : P.info? elem <;> simp [h] at hsz ⊢)
    rw [show Nat.min 0 k = 0 by simp []]
    exact ⟨w, hrun, by simpa using hg, But.rfl⟩
  | some ad =>
    have hlen : (cells3 (ys.take k)).length = Nat.min sLen k * 3 := by
      rw [cells3_length, List.length_take, hy.1]; congr 1; simp [Nat.min_def]; split <;> split <;> omega
    have hrun := run_copy3 (P := P) w dT sT ty elem g k kc ad sLen sCap (cells3 xs).toArray t (cells3 (ys.take k)) hu hsz hg hlen (fun j v hj => by
      have hjl : j < (cells3 (ys.take k)).length := by
        rcases Nat.lt_or_ge j (cells3 (ys.take k)).length with h' | h'
        · exact h'
        · rw [List.getElem?_eq_none h'] at hj; cases hj
      rw [hlen] at hjl
      have hm : Nat.min sLen k ≤ sLen ∧ Nat.min sLen k ≤ k := ⟨Nat.min_le_left _ _, Nat.min_le_right _ _⟩
      obtain ⟨i, u, hu3, rfl⟩ : ∃ i u, u < 3 ∧ j = i * 3 + u := ⟨j / 3, j % 3, by omega, by omega⟩
      obtain ⟨b, off, x, e, hb, hxi, c0, c1, c2⟩ := hy.2 i (by omega)
      cases e
      obtain ⟨e0, e1, e2⟩ := cells3_at (ys.take k) i x (by rw [List.getElem?_take, if_pos (by omega)]; exact hxi)
      have hadd : ∀ q, (⟨b, off, none⟩ : Addr).add q = ⟨b, off + q, none⟩ := fun q => by unfold Addr.add; split <;> simp_all
      rw [hadd]
      have : u = 0 ∨ u = 1 ∨ u = 2 := by omega
      rcases this with rfl | rfl | rfl
      · rw [Nat.add_zero] at hj ⊢; rw [c0, ← hj, e0]
      · rw [← Nat.add_assoc, c1, ← hj, e1]
      · rw [← Nat.add_assoc, c2, ← hj, e2]) (by
        have := hlen
        have hm : Nat.min sLen k ≤ k := Nat.min_le_right _ _
        have h3 := cells3_length xs
        simp only [List.size_toArray]
        omega) (cells3_one (fun y hy' => h1 y (List.mem_of_mem_take hy')))
    refine ⟨w.setRow g ((cells3 xs).toArray.toList.take 0 ++ cells3 (ys.take k) ++ (cells3 xs).toArray.toList.drop (0 + (cells3 (ys.take k)).length)).toArray, hrun, (by
      have e := setRow_heap w g _ ((cells3 xs).toArray.toList.take 0 ++ cells3 (ys.take k) ++ (cells3 xs).toArray.toList.drop (0 + (cells3 (ys.take k)).length)).toArray t _ hg
      rw [e]
      congr 3
      rw [cells3_append]
      simp only [List.take_zero, List.nil_append, Nat.zero_add, hlen]
      congr 1
      rw [← cells3_drop]
      by_cases hk : sLen ≤ k
      · rw [show Nat.min sLen k = sLen by simp [hk]]
      · have h3 := cells3_length xs
        rw [show Nat.min sLen k = k by simp [Nat.min_def]; omega, List.drop_eq_nil_of_le (by omega), List.drop_eq_nil_of_le (by omega)]), ⟨rfl, rfl, rfl, by simp [World.setRow], fun q _ hq => setRow_other w g q _ (fun h => hq h)⟩⟩
end Go.Proofs.Ytigiakhdaaoljaa
