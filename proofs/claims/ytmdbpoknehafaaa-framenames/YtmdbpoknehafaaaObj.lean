/-
  Lists of lists of bytes, and the two deframers, as they lie in memory.
-/
import Derived.Test.YtmdbpoknehafaaaWrap
namespace Go.Proofs.Ytmdbpoknehafaaa
open Go.RowKit
theorem But.own1 (w : World) (g o : Nat) (v : Value) : But (One g) w (w.setCell ⟨g, o, none⟩ v) := But.set (S := One g) But.rfl ⟨g, o, none⟩ (fun _ => Eq.refl g) v
/-- Values and lists, one beside the other. -/
def Each (E : Value → List Int → Prop) (xs : List Value) (fs : List (List Int)) : Prop := xs.length = fs.length ∧ ∀ p ∈ xs.zip fs, E p.1 p.2
theorem Each.nil (E : Value → List Int → Prop) : Each E [] [] := ⟨rfl, fun p hp => by cases hp⟩
theorem Each.append {E : Value → List Int → Prop} {xs ys : List Value} {fs gs : List (List Int)} (h : Each E xs fs) (k : Each E ys gs) : Each E (xs ++ ys) (fs ++ gs) := by
  refine ⟨by rw [List.length_append, List.length_append, h.1, k.1], fun p hp => ?_⟩
  rw [List.zip_append h.1] at hp
  rcases List.mem_append.1 hp with e | e
  · exact h.2 p e
  · exact k.2 p e
theorem Each.one {E : Value → List Int → Prop} {x : Value} {f : List Int} (h : E x f) : Each E [x] [f] := ⟨rfl, fun p hp => by
  simp at hp; subst hp; exact h⟩
theorem Each.mono {E F : Value → List Int → Prop} {xs : List Value} {fs : List (List Int)} (h : Each E xs fs) (k : ∀ x f, E x f → F x f) : Each F xs fs := ⟨h.1, fun p hp => k _ _ (h.2 p hp)⟩
theorem Each.at {E : Value → List Int → Prop} {xs : List Value} {fs : List (List Int)} (h : Each E xs fs) {i : Nat} (hi : i < fs.length) : ∃ x, xs[i]? = some x ∧ E x (fs.getD i []) := by
  have hx : i < xs.length := by rw [h.1]; exact hi
  refine ⟨xs[i], List.getElem?_eq_getElem hx, ?_⟩
  have := h.2 (xs[i], fs[i]) (by
    have e : (xs.zip fs)[i]? = some (xs[i], fs[i]) := by
      rw [List.getElem?_zip_eq_some]; exact ⟨List.getElem?_eq_getElem hx, List.getElem?_eq_getElem hi⟩
    exact List.mem_of_getElem? e)
  simp only [List.getD_eq_getElem?_getD, List.getElem?_eq_getElem hi, Option.getD_some]
  exact this
/-- A value that leads to bytes of its own. -/
def OwnB (w : World) (B : Nat) (v : Value) (z : List Int) : Prop := w.ownsRow B 5 1 v z.length (u8s z) ∧ Bs z
/-- A value that leads to bytes. -/
def RowB (w : World) (v : Value) (z : List Int) : Prop := ∃ a c, v = .slice a z.length c ∧ Row w a z.length z ∧ (a = none → z.length = 0 ∧ c = 0) ∧ z.length ≤ c ∧ z.length ≤ 140737488355328
theorem OwnB.row {w : World} {B : Nat} {v : Value} {z : List Int} (h : OwnB w B v z) (hz : z.length ≤ 140737488355328) : RowB w v z := by
  obtain ⟨a, c, e, r1, r2, r3, _⟩ := own_row h.1 h.2
  exact ⟨a, c, e, r1, r2, r3, hz⟩
theorem OwnB.but {S : Nat → Prop} {w w' : World} {B : Nat} {v : Value} {z : List Int} (h : OwnB w B v z) (b : But S w w') (hs : ∀ i, B ≤ i → ¬ S i) : OwnB w' B v z := ⟨own_but h.1 b (fun k hk => hs k (h.1.lt k hk).1), h.2⟩
theorem RowB.after {w w' : World} {v : Value} {z : List Int} (h : RowB w v z) (b : After w w') : RowB w' v z := by
  obtain ⟨a, c, e, r1, r2⟩ := h
  exact ⟨a, c, e, r1.after b, r2⟩
/-- Frames that were answered: in memory of their own. -/
def Frs (w : World) (B : Nat) (v : Value) (fs : List (List Int)) : Prop := ∃ xs, w.ownsRow B 27 1 v fs.length xs ∧ Each (OwnB w B) xs fs
/-- Lists that were gathered: the outer one in memory of its own. -/
def Gat (w : World) (B : Nat) (v : Value) (fs : List (List Int)) : Prop := ∃ xs, w.ownsRow B 27 1 v fs.length xs ∧ Each (RowB w) xs fs
/-- Lists of bytes lie where a slice of n places leads. -/
def Lst (w : World) (a : Option Addr) (n : Nat) (fs : List (List Int)) : Prop :=
  fs.length = n ∧ ∀ i, i < n → ∃ b off v, a = some ⟨b, off, none⟩ ∧ b < w.heap.size ∧ w.cell? ⟨b, off + i, none⟩ = some v ∧ RowB w v (fs.getD i [])
theorem Lst.after {w w' : World} {a : Option Addr} {n : Nat} {fs : List (List Int)} (h : Lst w a n fs) (b : After w w') : Lst w' a n fs :=
  ⟨h.1, fun i hi => by
    obtain ⟨b0, off, v, e, hb, hc, hr⟩ := h.2 i hi
    exact ⟨b0, off, v, e, Nat.lt_of_lt_of_le hb b.size, by rw [b.cell hb]; exact hc, hr.after b⟩⟩
theorem Frs.gat {w : World} {B : Nat} {v : Value} {fs : List (List Int)} (h : Frs w B v fs) (hz : ∀ f ∈ fs, f.length ≤ 140737488355328) : Gat w B v fs := by
  obtain ⟨xs, h1, h2⟩ := h
  refine ⟨xs, h1, h2.1, fun p hp => (h2.2 p hp).row (hz _ ?_)⟩
  exact (List.of_mem_zip hp).2
theorem Gat.lst {w : World} {B : Nat} {v : Value} {fs : List (List Int)} (h : Gat w B v fs) : ∃ a c, v = .slice a fs.length c ∧ Lst w a fs.length fs := by
  obtain ⟨xs, h1, h2⟩ := h
  rcases h1.2 with ⟨rfl, h0⟩ | ⟨g, cap, cur, rfl, _, _⟩
  · exact ⟨none, 0, by rw [h0], rfl, fun i hi => absurd hi (by omega)⟩
  · refine ⟨_, cap, rfl, rfl, fun i hi => ?_⟩
    obtain ⟨x, e1, e2⟩ := h2.at hi
    exact ⟨g, 0, x, rfl, (h1.lt g rfl).2, by rw [Nat.zero_add, h1.cellAt i (by omega)]; exact e1, e2⟩
theorem Gat.but {S : Nat → Prop} {w w' : World} {B : Nat} {v : Value} {fs : List (List Int)} (h : Gat w B v fs) (b : But S w w') (hs : ∀ i, i < w.heap.size → ¬ S i) : Gat w' B v fs := by
  have hA : After w w' := b.mono (fun i hi s => (hs i hi s).elim)
  obtain ⟨xs, h1, h2⟩ := h
  exact ⟨xs, own_after h1 hA, h2.mono (fun x f e => e.after hA)⟩
theorem Gat.after {w w' : World} {B : Nat} {v : Value} {fs : List (List Int)} (h : Gat w B v fs) (b : After w w') : Gat w' B v fs := h.but b (fun _ _ t => t)
/-- The program's deframer at block g: the bytes zs wait, in block h (g itself: nowhere). -/
def DfAt (w : World) (g h : Nat) (zs : List Int) : Prop :=
  ∃ a n c, w.heap[g]? = some (.cells #[.bool true, .slice a n c] 45 (0, 0)) ∧ Row w a n zs ∧ n ≤ c ∧ (a = none → n = 0 ∧ c = 0) ∧ ((a = none ∧ h = g) ∨ ∃ off, a = some ⟨h, off, none⟩ ∧ h ≠ g ∧ h < w.heap.size)
/-- The document's. -/
def RfAt (w : World) (g h : Nat) (zs : List Int) : Prop :=
  ∃ a n c, w.heap[g]? = some (.cells #[.slice a n c] 47 (0, 0)) ∧ Row w a n zs ∧ n ≤ c ∧ (a = none → n = 0 ∧ c = 0) ∧ ((a = none ∧ h = g) ∨ ∃ off, a = some ⟨h, off, none⟩ ∧ h ≠ g ∧ h < w.heap.size)
theorem DfAt.but {S : Nat → Prop} {w w' : World} {g h : Nat} {zs : List Int} (r : DfAt w g h zs) (b : But S w w') (hg : ¬ S g) (hh : ¬ S h) : DfAt w' g h zs := by
  obtain ⟨a, n, c, h1, h2, h3, h4, h5⟩ := r
  refine ⟨a, n, c, (b.block g (two_at h1).1 hg).trans h1, h2.but b (fun x hx => ?_), h3, h4, h5.imp_right (fun ⟨off, e, hne, hl⟩ => ⟨off, e, hne, Nat.lt_of_lt_of_le hl b.size⟩)⟩
  rcases h5 with ⟨e, _⟩ | ⟨off, e, _⟩
  · rw [e] at hx; cases hx
  · rw [e] at hx; cases hx; exact hh
theorem RfAt.but {S : Nat → Prop} {w w' : World} {g h : Nat} {zs : List Int} (r : RfAt w g h zs) (b : But S w w') (hg : ¬ S g) (hh : ¬ S h) : RfAt w' g h zs := by
  obtain ⟨a, n, c, h1, h2, h3, h4, h5⟩ := r
  refine ⟨a, n, c, (b.block g (one_at h1).1 hg).trans h1, h2.but b (fun x hx => ?_), h3, h4, h5.imp_right (fun ⟨off, e, hne, hl⟩ => ⟨off, e, hne, Nat.lt_of_lt_of_le hl b.size⟩)⟩
  rcases h5 with ⟨e, _⟩ | ⟨off, e, _⟩
  · rw [e] at hx; cases hx
  · rw [e] at hx; cases hx; exact hh
theorem DfAt.after {w w' : World} {g h : Nat} {zs : List Int} (r : DfAt w g h zs) (b : After w w') : DfAt w' g h zs := r.but b (fun t => t) (fun t => t)
theorem RfAt.after {w w' : World} {g h : Nat} {zs : List Int} (r : RfAt w g h zs) (b : After w w') : RfAt w' g h zs := r.but b (fun t => t) (fun t => t)
theorem DfAt.lt {w : World} {g h : Nat} {zs : List Int} (r : DfAt w g h zs) : g < w.heap.size ∧ h < w.heap.size := by
  obtain ⟨a, n, c, h1, h2, h3, h4, h5⟩ := r
  have := (two_at h1).1
  rcases h5 with ⟨e, e2⟩ | ⟨off, e, _, hl⟩
  · omega
  · exact ⟨this, hl⟩
theorem RfAt.lt {w : World} {g h : Nat} {zs : List Int} (r : RfAt w g h zs) : g < w.heap.size ∧ h < w.heap.size := by
  obtain ⟨a, n, c, h1, h2, h3, h4, h5⟩ := r
  have := (one_at h1).1
  rcases h5 with ⟨e, e2⟩ | ⟨off, e, _, hl⟩
  · omega
  · exact ⟨this, hl⟩
theorem DfAt.bs {w : World} {g h : Nat} {zs : List Int} (r : DfAt w g h zs) : Bs zs := by
  obtain ⟨a, n, c, h1, h2, _⟩ := r
  exact h2.2.1
theorem RfAt.bs {w : World} {g h : Nat} {zs : List Int} (r : RfAt w g h zs) : Bs zs := by
  obtain ⟨a, n, c, h1, h2, _⟩ := r
  exact h2.2.1
/-- A deframer that is stored anew. -/
theorem df_store {w : World} {g : Nat} {y v : Value} {zs : List Int} (h1 : w.heap[g]? = some (.cells #[.bool true, y] 45 (0, 0))) (B : Nat) (ho : w.ownsRow B 5 1 v zs.length (u8s zs)) (hb : Bs zs) (hB : g < B) :
    ∃ h, DfAt (w.setCell ⟨g, 1, none⟩ v) g h zs ∧ (h = g ∨ B ≤ h) := by
  obtain ⟨a, c, rfl, r1, r2, r3, r4⟩ := own_row ho hb
  have b1 := But.own1 w g 1 (.slice a zs.length c)
  cases a with
  | none =>
    obtain ⟨e1, rfl⟩ := r2 rfl
    exact ⟨g, ⟨none, _, _, two_set1 h1 _, r1.but b1 (fun x hx => by cases hx), r3, r2, .inl ⟨rfl, rfl⟩⟩, .inl rfl⟩
  | some x =>
    obtain ⟨e1, e2⟩ := r4 x rfl
    obtain ⟨l1, l2⟩ := ho.lt _ e1
    exact ⟨x.block, ⟨some x, _, _, two_set1 h1 _, r1.but b1 (fun y hy => by cases hy; intro t; have t2 : x.block = g := t; omega), r3, (fun e => by cases e), .inr ⟨0, by rw [← e2], by omega, Nat.lt_of_lt_of_le l2 b1.size⟩⟩, .inr l1⟩
end Go.Proofs.Ytmdbpoknehafaaa
