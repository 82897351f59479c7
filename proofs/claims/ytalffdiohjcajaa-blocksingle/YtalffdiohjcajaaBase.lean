/-
  What all walks of this seat share: the world behind a call that makes memory, draws, and stores into some blocks alone; rows of bytes; small facts on answers.
-/
import Derived.Test.YtalffdiohjcajaaRows
import Derived.WalkKit
import Derived.WalkSpells
import Derived.WalkLawsBesides
import Derived.Laws.OwnMore
import Derived.Laws.AppendOwnNone
import Derived.Maps.AppendAt
import Derived.Laws.BitsAllLaws
namespace Go.Proofs.Ytalffdiohjcajaa
open Go.RowKit
theorem hideIt {p : Prop} (h : p) : Hid p := h
theorem Hid.out {p : Prop} (h : Hid p) : p := h
theorem ret_int {k : IntKind} {a b : Int} (h : a = b) : Ending.returned (.int k a) = .returned (.int k b) := by rw [h]
theorem ret_bool {a b : Bool} (h : a = b) : Ending.returned (.bool a) = .returned (.bool b) := by rw [h]
/-- New blocks, draws, and stores into the blocks of S alone. -/
structure But (S : Nat → Prop) (w w' : World) : Prop where
  os : w'.os = w.os
  tape : w'.tape = w.tape
  output : w'.output = w.output
  size : w.heap.size ≤ w'.heap.size
  block : ∀ k, k < w.heap.size → ¬ S k → w'.heap[k]? = w.heap[k]?
/-- No block. -/
def Non : Nat → Prop := fun _ => False
/-- One block. -/
def One (g : Nat) : Nat → Prop := fun k => k = g
/-- Two blocks. -/
def Two (g h : Nat) : Nat → Prop := fun k => k = g ∨ k = h
/-- A block, and what a value owns. -/
def Own (g : Nat) (v : Value) : Nat → Prop := fun k => k = g ∨ v.ownBlock = some k
theorem But.rfl {S : Nat → Prop} {w : World} : But S w w := ⟨Eq.refl _, Eq.refl _, Eq.refl _, Nat.le_refl _, fun _ _ _ => Eq.refl _⟩
theorem But.then {S T : Nat → Prop} {a b c : World} (h : But S a b) (k : But T b c) (hs : ∀ i, i < a.heap.size → T i → S i) : But S a c :=
  ⟨k.os.trans h.os, k.tape.trans h.tape, k.output.trans h.output, Nat.le_trans h.size k.size, fun i hi hn => (k.block i (Nat.lt_of_lt_of_le hi h.size) (fun t => hn (hs i hi t))).trans (h.block i hi hn)⟩
theorem But.trans {S : Nat → Prop} {a b c : World} (h : But S a b) (k : But S b c) : But S a c := h.then k (fun _ _ t => t)
theorem But.mono {S T : Nat → Prop} {a b : World} (h : But S a b) (hs : ∀ i, i < a.heap.size → S i → T i) : But T a b :=
  ⟨h.os, h.tape, h.output, h.size, fun i hi hn => h.block i hi (fun s => hn (hs i hi s))⟩
theorem But.draws {S : Nat → Prop} {a b : World} (h : But S a b) (n : Nat) : But S a (b.drewN n) := ⟨h.os, h.tape, h.output, h.size, h.block⟩
theorem But.drew {S : Nat → Prop} {a b : World} (h : But S a b) : But S a b.drew := ⟨h.os, h.tape, h.output, h.size, h.block⟩
theorem But.alloc {S : Nat → Prop} {a b : World} (h : But S a b) (o : Obj) : But S a (b.alloc o) :=
  h.then (T := Non) ⟨Eq.refl _, Eq.refl _, Eq.refl _, by simp, fun k hk _ => Below.heap_alloc _ _ _ hk⟩ (fun _ _ t => t.elim)
theorem But.set {S : Nat → Prop} {a b : World} (h : But S a b) (p : Addr) (hp : p.block < a.heap.size → S p.block) (v : Value) : But S a (b.setCell p v) :=
  h.then (T := One p.block) ⟨Eq.refl _, Eq.refl _, Eq.refl _, by simp [World.setCell], fun k _ hn => Below.heap_setCell _ _ _ _ hn⟩ (fun i hi t => by cases t; exact hp hi)
theorem But.grown {S : Nat → Prop} {a b c : World} {row : Option Nat} (h : But S a b) (hg : b.grownBy c row) (hr : ∀ k, row = some k → k < a.heap.size → S k) : But S a c :=
  h.then (T := fun k => row = some k) ⟨hg.os, hg.tape, hg.output, hg.size, fun k hk hn => hg.block k hk (fun e => hn e.symm)⟩ (fun i hi t => hr i t hi)
theorem But.cell {S : Nat → Prop} {a b : World} (h : But S a b) {g : Nat} (hg : g < a.heap.size) (hn : ¬ S g) (o : Nat) : b.cell? ⟨g, o, none⟩ = a.cell? ⟨g, o, none⟩ := World.cell?_of_block (w := a) (h.block g hg hn)
theorem But.below {S : Nat → Prop} {a b : World} (h : But S a b) (hs : ∀ i, i < a.heap.size → ¬ S i) : Below a.heap.size a b :=
  ⟨h.os, h.tape, h.output, h.size, fun k hk => h.block k hk (hs k hk)⟩
/-- New blocks and draws alone. -/
def After (w w' : World) : Prop := But Non w w'
theorem After.rfl {w : World} : After w w := But.rfl
theorem After.trans {a b c : World} (h : After a b) (k : After b c) : After a c := But.trans h k
theorem After.then {S : Nat → Prop} {a b c : World} (h : After a b) (k : But S b c) (hs : ∀ i, i < a.heap.size → ¬ S i) : After a c := But.then h k (fun i hi s => (hs i hi s).elim)
theorem After.size {a b : World} (h : After a b) : a.heap.size ≤ b.heap.size := But.size h
theorem After.below {a b : World} (h : After a b) : Below a.heap.size a b := But.below h (fun _ _ t => t)
theorem After.of {a b : World} (h : Below a.heap.size a b) : After a b := ⟨h.os, h.tape, h.output, h.size, fun k hk _ => h.block k hk⟩
theorem After.but {S : Nat → Prop} {a b : World} (h : After a b) : But S a b := But.mono h (fun _ _ t => t.elim)
theorem After.draws {a b : World} (h : After a b) (n : Nat) : After a (b.drewN n) := But.draws h n
theorem After.alloc {a b : World} (h : After a b) (o : Obj) : After a (b.alloc o) := But.alloc h o
theorem After.set {a b : World} (h : After a b) (p : Addr) (hp : a.heap.size ≤ p.block) (v : Value) : After a (b.setCell p v) := But.set h p (fun hl => absurd hl (by omega)) v
theorem After.cell {a b : World} (h : After a b) {g : Nat} (hg : g < a.heap.size) (o : Nat) : b.cell? ⟨g, o, none⟩ = a.cell? ⟨g, o, none⟩ := But.cell h hg (fun t => t) o
/-- Bytes. -/
def Bs (zs : List Int) : Prop := ∀ z ∈ zs, 0 ≤ z ∧ z ≤ 255
theorem Bs.take {zs : List Int} (h : Bs zs) (k : Nat) : Bs (zs.take k) := fun z hz => h z (List.mem_of_mem_take hz)
theorem Bs.drop {zs : List Int} (h : Bs zs) (k : Nat) : Bs (zs.drop k) := fun z hz => h z (List.mem_of_mem_drop hz)
theorem Bs.append {zs ys : List Int} (h : Bs zs) (k : Bs ys) : Bs (zs ++ ys) := fun z hz => by
  rcases List.mem_append.1 hz with e | e
  · exact h z e
  · exact k z e
theorem Bs.nil : Bs [] := fun z hz => by cases hz
theorem Bs.at {zs : List Int} (h : Bs zs) {i : Nat} (hi : i < zs.length) : 0 ≤ zs.getD i 0 ∧ zs.getD i 0 ≤ 255 := h _ (by simp [hi])
/-- The bytes zs lie where a slice of n places leads. -/
def Row (w : World) (a : Option Addr) (n : Nat) (zs : List Int) : Prop :=
  zs.length = n ∧ Bs zs ∧ ∀ i, i < n → ∃ b off, a = some ⟨b, off, none⟩ ∧ b < w.heap.size ∧ w.cell? ⟨b, off + i, none⟩ = some (.int .u8 (zs.getD i 0))
theorem Row.but {S : Nat → Prop} {w w' : World} {a n zs} (h : Row w a n zs) (ha : But S w w') (hn : ∀ x, a = some x → ¬ S x.block) : Row w' a n zs :=
  ⟨h.1, h.2.1, fun i hi => by
    obtain ⟨b, off, e, hb, hc⟩ := h.2.2 i hi
    exact ⟨b, off, e, Nat.lt_of_lt_of_le hb ha.size, by rw [ha.cell hb (hn _ e)]; exact hc⟩⟩
theorem Row.but2 {S : Nat → Prop} {w w' : World} {a n zs} (h : Row w a n zs) (ha : But S w w') (hn : ∀ x, a = some x → 0 < n → ¬ S x.block) : Row w' a n zs :=
  ⟨h.1, h.2.1, fun i hi => by
    obtain ⟨b, off, e, hb, hc⟩ := h.2.2 i hi
    exact ⟨b, off, e, Nat.lt_of_lt_of_le hb ha.size, by rw [ha.cell hb (hn _ e (by omega))]; exact hc⟩⟩
theorem Row.after {w w' : World} {a n zs} (h : Row w a n zs) (ha : After w w') : Row w' a n zs := h.but ha (fun _ _ t => t)
theorem Row.at {w : World} {a n zs} (h : Row w a n zs) {i : Nat} (hi : i < n) : ∃ b off, ∃ x : Nat, a = some ⟨b, off, none⟩ ∧ b < w.heap.size ∧ x < 256 ∧ zs.getD i 0 = (x : Int) ∧ w.cell? ⟨b, off + i, none⟩ = some (.int .u8 x) := by
  obtain ⟨b, off, e, hb, hc⟩ := h.2.2 i hi
  have hr := h.2.1.at (i := i) (by rw [h.1]; exact hi)
  refine ⟨b, off, (zs.getD i 0).toNat, e, hb, by omega, by omega, ?_⟩
  rw [hc, Int.toNat_of_nonneg hr.1]
theorem getD_drop (zs : List Int) (k i : Nat) : (zs.drop k).getD i 0 = zs.getD (k + i) 0 := by
  simp [List.getD_eq_getElem?_getD, List.getElem?_drop]
theorem getD_take (zs : List Int) {k i : Nat} (h : i < k) : (zs.take k).getD i 0 = zs.getD i 0 := by
  simp [List.getD_eq_getElem?_getD, h]
theorem Row.take {w : World} {a n zs} (h : Row w a n zs) {k : Nat} (hk : k ≤ n) : Row w a k (zs.take k) :=
  ⟨by rw [List.length_take, h.1]; omega, h.2.1.take k, fun i hi => by
    obtain ⟨b, off, e, hb, hc⟩ := h.2.2 i (by omega)
    exact ⟨b, off, e, hb, by rw [hc, getD_take zs hi]⟩⟩
theorem Row.drop {w : World} {b off n zs} (h : Row w (some ⟨b, off, none⟩) n zs) {k : Nat} (hk : k ≤ n) : Row w (some ⟨b, off + k, none⟩) (n - k) (zs.drop k) :=
  ⟨by rw [List.length_drop, h.1], h.2.1.drop k, fun i hi => by
    obtain ⟨b', off', e, hb, hc⟩ := h.2.2 (k + i) (by omega)
    cases e
    exact ⟨b, off + k, rfl, hb, by rw [getD_drop, ← hc, Nat.add_assoc]⟩⟩
theorem Row.nil (w : World) (a : Option Addr) : Row w a 0 [] := ⟨rfl, Bs.nil, fun i hi => absurd hi (by omega)⟩
theorem Try.info5 : (Try.prog.info? 5).map (fun i => (i.zero, i.size, i.bytes)) = some (some (.int .u8 0), 1, 1) := by kernel_rfl
def u8s (zs : List Int) : List Value := zs.map (Value.int .u8)
theorem u8s_append (zs ys : List Int) : u8s zs ++ u8s ys = u8s (zs ++ ys) := by unfold u8s; rw [List.map_append]
theorem u8s_length (zs : List Int) : (u8s zs).length = zs.length := by simp [u8s]
theorem own_but {S : Nat → Prop} {w W : World} {B : Nat} {e : TypeId} {sz : Nat} {v : Value} {n : Nat} {xs : List Value} (h : w.ownsRow B e sz v n xs) (ha : But S w W) (hn : ∀ k, v.ownBlock = some k → ¬ S k) : W.ownsRow B e sz v n xs := by
  refine ⟨h.1, ?_⟩
  rcases h.2 with hn | ⟨g, cap, cur, h1, h2, h3, h4⟩
  · exact Or.inl hn
  · have hlt : g < w.heap.size := by
      rcases Nat.lt_or_ge g w.heap.size with h' | h'
      · exact h'
      · rw [Array.getElem?_eq_none h'] at h3; cases h3
    exact Or.inr ⟨g, cap, cur, h1, h2, (ha.block g hlt (hn g (by rw [h1]; rfl))).trans h3, h4⟩
theorem own_after {w W : World} {B : Nat} {e : TypeId} {sz : Nat} {v : Value} {n : Nat} {xs : List Value} (h : w.ownsRow B e sz v n xs) (ha : After w W) : W.ownsRow B e sz v n xs := own_but h ha (fun _ _ t => t)
theorem own_base {w : World} {B C : Nat} {e : TypeId} {sz : Nat} {v : Value} {n : Nat} {xs : List Value} (h : w.ownsRow B e sz v n xs) (hc : ∀ k, v.ownBlock = some k → C ≤ k) : w.ownsRow C e sz v n xs := by
  refine ⟨h.1, ?_⟩
  rcases h.2 with hn | ⟨g, cap, cur, h1, h2, h3⟩
  · exact Or.inl hn
  · exact Or.inr ⟨g, cap, cur, h1, hc g (by rw [h1]; rfl), h3⟩
/-- What is owned is a row. -/
theorem own_row {w : World} {B : Nat} {v : Value} {n : Nat} {zs : List Int} (h : w.ownsRow B 5 1 v n (u8s zs)) (hb : Bs zs) : ∃ a c, v = .slice a n c ∧ Row w a n zs ∧ (a = none → n = 0 ∧ c = 0) ∧ n ≤ c ∧ (∀ x, a = some x → v.ownBlock = some x.block ∧ x = ⟨x.block, 0, none⟩) := by
  have hl : zs.length = n := by have := h.1; simp [u8s] at this; exact this
  rcases h.2 with ⟨rfl, rfl⟩ | ⟨g, cap, cur, rfl, _, _, hnc, _⟩
  · exact ⟨none, 0, rfl, ⟨hl, hb, fun i hi => absurd hi (by omega)⟩, fun _ => ⟨rfl, rfl⟩, by omega, fun x hx => by cases hx⟩
  · refine ⟨_, _, rfl, ⟨hl, hb, fun i hi => ⟨g, 0, rfl, (h.lt g rfl).2, ?_⟩⟩, (fun h => by cases h), hnc, fun x hx => by cases hx; exact ⟨rfl, rfl⟩⟩
    have := h.cellAt i (by omega)
    rw [Nat.zero_add, this]
    have hi' : i < zs.length := by omega
    simp [u8s, hi']
theorem row_news {w : World} {x : Addr} {n : Nat} {zs : List Int} (h : Row w (some x) n zs) : ∀ j u, (u8s zs)[j]? = some u → w.cell? (x.add j) = some u := by
  intro j u hj
  have hjl : j < zs.length := by
    rcases Nat.lt_or_ge j zs.length with h' | h'
    · exact h'
    · simp [u8s, h'] at hj
  obtain ⟨b, off, e, _, hc⟩ := h.2.2 j (by rw [← h.1]; exact hjl)
  cases e
  have hu : u = .int .u8 (zs.getD j 0) := by simp [u8s, hjl] at hj; simp [hjl, ← hj]
  rw [hu]
  have e : (⟨b, off, none⟩ : Addr).add j = ⟨b, off + j, none⟩ := by simp [Addr.add]
  rw [e]; exact hc
theorem u8s_one (zs : List Int) : ∀ u ∈ u8s zs, u.oneCell' = true := by
  intro u hu
  obtain ⟨z, _, rfl⟩ := List.mem_map.1 hu
  rfl
/-- A block of two cells: what it is read as, and behind a store. -/
theorem two_at {w : World} {g : Nat} {T : TypeId} {x y : Value} (h : w.heap[g]? = some (.cells #[x, y] T (0, 0))) :
    g < w.heap.size ∧ w.cell? ⟨g, 0, none⟩ = some x ∧ w.cell? ⟨g, 1, none⟩ = some y ∧ w.frozen? ⟨g, 0, none⟩ = false ∧ w.frozen? ⟨g, 1, none⟩ = false := by
  refine ⟨(Array.getElem?_eq_some_iff.1 h).1, ?_, ?_, ?_, ?_⟩
  · simp [World.cell?, h]
  · simp [World.cell?, h]
  · simp [World.frozen?, h]
  · simp [World.frozen?, h]
theorem two_new (w : World) (T : TypeId) (x y : Value) : (w.alloc (.cells #[x, y] T)).heap[w.heap.size]? = some (.cells #[x, y] T (0, 0)) := heap_alloc_new w _
theorem two_set0 {w : World} {g : Nat} {T : TypeId} {x y : Value} (h : w.heap[g]? = some (.cells #[x, y] T (0, 0))) (v : Value) : (w.setCell ⟨g, 0, none⟩ v).heap[g]? = some (.cells #[v, y] T (0, 0)) := by
  simp [World.setCell, Array.getElem?_modify, h]
theorem two_set1 {w : World} {g : Nat} {T : TypeId} {x y : Value} (h : w.heap[g]? = some (.cells #[x, y] T (0, 0))) (v : Value) : (w.setCell ⟨g, 1, none⟩ v).heap[g]? = some (.cells #[x, v] T (0, 0)) := by
  simp [World.setCell, Array.getElem?_modify, h]
/-- A block of one cell. -/
theorem one_at {w : World} {g : Nat} {T : TypeId} {x : Value} (h : w.heap[g]? = some (.cells #[x] T (0, 0))) :
    g < w.heap.size ∧ w.cell? ⟨g, 0, none⟩ = some x ∧ w.frozen? ⟨g, 0, none⟩ = false := by
  refine ⟨(Array.getElem?_eq_some_iff.1 h).1, ?_, ?_⟩
  · simp [World.cell?, h]
  · simp [World.frozen?, h]
theorem one_set {w : World} {g : Nat} {T : TypeId} {x : Value} (h : w.heap[g]? = some (.cells #[x] T (0, 0))) (v : Value) : (w.setCell ⟨g, 0, none⟩ v).heap[g]? = some (.cells #[v] T (0, 0)) := by
  simp [World.setCell, Array.getElem?_modify, h]
end Go.Proofs.Ytalffdiohjcajaa
