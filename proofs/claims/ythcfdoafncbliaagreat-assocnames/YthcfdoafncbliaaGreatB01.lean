/-
  Laid together: Base, Pure, Take, Numb.
-/
import Derived.Test.YthcfdoafncbliaaGreatRows
import Derived.WalkKit
import Derived.WalkSpells
import Derived.WalkLawsBesides
import Derived.Laws.OwnMore
import Derived.Laws.AppendOwnNone
import Derived.Maps.AppendAt
import Derived.Laws.BitsAllLaws
/-
  What all walks of this seat share: the world behind a call that makes memory, draws, and stores into some blocks alone; rows of bytes; small facts on answers.
-/
namespace Go.Proofs.YthcfdoafncbliaaGreat
open Go.RowKit
theorem hideIt {p : Prop} (h : p) : Hid p := h
theorem Hid.out {p : Prop} (h : Hid p) : p := h
theorem ret_int {k : IntKind} {a b : Int} (h : a = b) : Ending.returned (.int k a) = .returned (.int k b) := by rw [h]
theorem ret_bool {a b : Bool} (h : a = b) : Ending.returned (.bool a) = .returned (.bool b) := by rw [h]
/-- New blocks, draws, and stores into the blocks of S alone. -/
structure But (S : Nat → Prop) (w w' : World) : Prop where
  os : w'.os = w.os
  tape : w'.tape = w.tape
  output : w'.output = w.output
  size : w.heap.size ≤ w'.heap.size
  block : ∀ k, k < w.heap.size → ¬ S k → w'.heap[k]? = w.heap[k]?
/-- No block. -/
def Non : Nat → Prop := fun _ => False
/-- One block. -/
def One (g : Nat) : Nat → Prop := fun k => k = g
/-- Two blocks. -/
def Two (g h : Nat) : Nat → Prop := fun k => k = g ∨ k = h
/-- A block, and what a value owns. -/
def Own (g : Nat) (v : Value) : Nat → Prop := fun k => k = g ∨ v.ownBlock = some k
theorem But.rfl {S : Nat → Prop} {w : World} : But S w w := ⟨Eq.refl _, Eq.refl _, Eq.refl _, Nat.le_refl _, fun _ _ _ => Eq.refl _⟩
theorem But.then {S T : Nat → Prop} {a b c : World} (h : But S a b) (k : But T b c) (hs : ∀ i, i < a.heap.size → T i → S i) : But S a c :=
  ⟨k.os.trans h.os, k.tape.trans h.tape, k.output.trans h.output, Nat.le_trans h.size k.size, fun i hi hn => (k.block i (Nat.lt_of_lt_of_le hi h.size) (fun t => hn (hs i hi t))).trans (h.block i hi hn)⟩
theorem But.trans {S : Nat → Prop} {a b c : World} (h : But S a b) (k : But S b c) : But S a c := h.then k (fun _ _ t => t)
theorem But.mono {S T : Nat → Prop} {a b : World} (h : But S a b) (hs : ∀ i, i < a.heap.size → S i → T i) : But T a b :=
  ⟨h.os, h.tape, h.output, h.size, fun i hi hn => h.block i hi (fun s => hn (hs i hi s))⟩
theorem But.draws {S : Nat → Prop} {a b : World} (h : But S a b) (n : Nat) : But S a (b.drewN n) := ⟨h.os, h.tape, h.output, h.size, h.block⟩
theorem But.drew {S : Nat → Prop} {a b : World} (h : But S a b) : But S a b.drew := ⟨h.os, h.tape, h.output, h.size, h.block⟩
theorem But.alloc {S : Nat → Prop} {a b : World} (h : But S a b) (o : Obj) : But S a (b.alloc o) :=
  h.then (T := Non) ⟨Eq.refl _, Eq.refl _, Eq.refl _, by simp, fun k hk _ => Below.heap_alloc _ _ _ hk⟩ (fun _ _ t => t.elim)
theorem But.set {S : Nat → Prop} {a b : World} (h : But S a b) (p : Addr) (hp : p.block < a.heap.size → S p.block) (v : Value) : But S a (b.setCell p v) :=
  h.then (T := One p.block) ⟨Eq.refl _, Eq.refl _, Eq.refl _, by simp [World.setCell], fun k _ hn => Below.heap_setCell _ _ _ _ hn⟩ (fun i hi t => by cases t; exact hp hi)
theorem But.grown {S : Nat → Prop} {a b c : World} {row : Option Nat} (h : But S a b) (hg : b.grownBy c row) (hr : ∀ k, row = some k → k < a.heap.size → S k) : But S a c :=
  h.then (T := fun k => row = some k) ⟨hg.os, hg.tape, hg.output, hg.size, fun k hk hn => hg.block k hk (fun e => hn e.symm)⟩ (fun i hi t => hr i t hi)
theorem But.cell {S : Nat → Prop} {a b : World} (h : But S a b) {g : Nat} (hg : g < a.heap.size) (hn : ¬ S g) (o : Nat) : b.cell? ⟨g, o, none⟩ = a.cell? ⟨g, o, none⟩ := World.cell?_of_block (w := a) (h.block g hg hn)
theorem But.below {S : Nat → Prop} {a b : World} (h : But S a b) (hs : ∀ i, i < a.heap.size → ¬ S i) : Below a.heap.size a b :=
  ⟨h.os, h.tape, h.output, h.size, fun k hk => h.block k hk (hs k hk)⟩
/-- New blocks and draws alone. -/
def After (w w' : World) : Prop := But Non w w'
theorem After.rfl {w : World} : After w w := But.rfl
theorem After.trans {a b c : World} (h : After a b) (k : After b c) : After a c := But.trans h k
theorem After.then {S : Nat → Prop} {a b c : World} (h : After a b) (k : But S b c) (hs : ∀ i, i < a.heap.size → ¬ S i) : After a c := But.then h k (fun i hi s => (hs i hi s).elim)
theorem After.size {a b : World} (h : After a b) : a.heap.size ≤ b.heap.size := But.size h
theorem After.below {a b : World} (h : After a b) : Below a.heap.size a b := But.below h (fun _ _ t => t)
theorem After.of {a b : World} (h : Below a.heap.size a b) : After a b := ⟨h.os, h.tape, h.output, h.size, fun k hk _ => h.block k hk⟩
theorem After.but {S : Nat → Prop} {a b : World} (h : After a b) : But S a b := But.mono h (fun _ _ t => t.elim)
theorem After.draws {a b : World} (h : After a b) (n : Nat) : After a (b.drewN n) := But.draws h n
theorem After.alloc {a b : World} (h : After a b) (o : Obj) : After a (b.alloc o) := But.alloc h o
theorem After.set {a b : World} (h : After a b) (p : Addr) (hp : a.heap.size ≤ p.block) (v : Value) : After a (b.setCell p v) := But.set h p (fun hl => absurd hl (by omega)) v
theorem After.cell {a b : World} (h : After a b) {g : Nat} (hg : g < a.heap.size) (o : Nat) : b.cell? ⟨g, o, none⟩ = a.cell? ⟨g, o, none⟩ := But.cell h hg (fun t => t) o
/-- Bytes. -/
def Bs (zs : List Int) : Prop := ∀ z ∈ zs, 0 ≤ z ∧ z ≤ 255
theorem Bs.take {zs : List Int} (h : Bs zs) (k : Nat) : Bs (zs.take k) := fun z hz => h z (List.mem_of_mem_take hz)
theorem Bs.drop {zs : List Int} (h : Bs zs) (k : Nat) : Bs (zs.drop k) := fun z hz => h z (List.mem_of_mem_drop hz)
theorem Bs.append {zs ys : List Int} (h : Bs zs) (k : Bs ys) : Bs (zs ++ ys) := fun z hz => by
  rcases List.mem_append.1 hz with e | e
  · exact h z e
  · exact k z e
theorem Bs.nil : Bs [] := fun z hz => by cases hz
theorem Bs.at {zs : List Int} (h : Bs zs) {i : Nat} (hi : i < zs.length) : 0 ≤ zs.getD i 0 ∧ zs.getD i 0 ≤ 255 := h _ (by simp [hi])
/-- The bytes zs lie where a slice of n places leads. -/
def Row (w : World) (a : Option Addr) (n : Nat) (zs : List Int) : Prop :=
  zs.length = n ∧ Bs zs ∧ ∀ i, i < n → ∃ b off, a = some ⟨b, off, none⟩ ∧ b < w.heap.size ∧ w.cell? ⟨b, off + i, none⟩ = some (.int .u8 (zs.getD i 0))
theorem Row.but {S : Nat → Prop} {w w' : World} {a n zs} (h : Row w a n zs) (ha : But S w w') (hn : ∀ x, a = some x → ¬ S x.block) : Row w' a n zs :=
  ⟨h.1, h.2.1, fun i hi => by
    obtain ⟨b, off, e, hb, hc⟩ := h.2.2 i hi
    exact ⟨b, off, e, Nat.lt_of_lt_of_le hb ha.size, by rw [ha.cell hb (hn _ e)]; exact hc⟩⟩
theorem Row.but2 {S : Nat → Prop} {w w' : World} {a n zs} (h : Row w a n zs) (ha : But S w w') (hn : ∀ x, a = some x → 0 < n → ¬ S x.block) : Row w' a n zs :=
  ⟨h.1, h.2.1, fun i hi => by
    obtain ⟨b, off, e, hb, hc⟩ := h.2.2 i hi
    exact ⟨b, off, e, Nat.lt_of_lt_of_le hb ha.size, by rw [ha.cell hb (hn _ e (by omega))]; exact hc⟩⟩
theorem Row.after {w w' : World} {a n zs} (h : Row w a n zs) (ha : After w w') : Row w' a n zs := h.but ha (fun _ _ t => t)
theorem Row.at {w : World} {a n zs} (h : Row w a n zs) {i : Nat} (hi : i < n) : ∃ b off, ∃ x : Nat, a = some ⟨b, off, none⟩ ∧ b < w.heap.size ∧ x < 256 ∧ zs.getD i 0 = (x : Int) ∧ w.cell? ⟨b, off + i, none⟩ = some (.int .u8 x) := by
  obtain ⟨b, off, e, hb, hc⟩ := h.2.2 i hi
  have hr := h.2.1.at (i := i) (by rw [h.1]; exact hi)
  refine ⟨b, off, (zs.getD i 0).toNat, e, hb, by omega, by omega, ?_⟩
  rw [hc, Int.toNat_of_nonneg hr.1]
theorem getD_drop (zs : List Int) (k i : Nat) : (zs.drop k).getD i 0 = zs.getD (k + i) 0 := by
  simp [List.getD_eq_getElem?_getD, List.getElem?_drop]
theorem getD_take (zs : List Int) {k i : Nat} (h : i < k) : (zs.take k).getD i 0 = zs.getD i 0 := by
  simp [List.getD_eq_getElem?_getD, h]
theorem Row.take {w : World} {a n zs} (h : Row w a n zs) {k : Nat} (hk : k ≤ n) : Row w a k (zs.take k) :=
  ⟨by rw [List.length_take, h.1]; omega, h.2.1.take k, fun i hi => by
    obtain ⟨b, off, e, hb, hc⟩ := h.2.2 i (by omega)
    exact ⟨b, off, e, hb, by rw [hc, getD_take zs hi]⟩⟩
theorem Row.drop {w : World} {b off n zs} (h : Row w (some ⟨b, off, none⟩) n zs) {k : Nat} (hk : k ≤ n) : Row w (some ⟨b, off + k, none⟩) (n - k) (zs.drop k) :=
  ⟨by rw [List.length_drop, h.1], h.2.1.drop k, fun i hi => by
    obtain ⟨b', off', e, hb, hc⟩ := h.2.2 (k + i) (by omega)
    cases e
    exact ⟨b, off + k, rfl, hb, by rw [getD_drop, ← hc, Nat.add_assoc]⟩⟩
theorem Row.nil (w : World) (a : Option Addr) : Row w a 0 [] := ⟨rfl, Bs.nil, fun i hi => absurd hi (by omega)⟩
theorem Tryz.info5 : (Tryz.prog.info? 5).map (fun i => (i.zero, i.size, i.bytes)) = some (some (.int .u8 0), 1, 1) := by kernel_rfl
def u8s (zs : List Int) : List Value := zs.map (Value.int .u8)
theorem u8s_append (zs ys : List Int) : u8s zs ++ u8s ys = u8s (zs ++ ys) := by unfold u8s; rw [List.map_append]
theorem u8s_length (zs : List Int) : (u8s zs).length = zs.length := by simp [u8s]
theorem own_but {S : Nat → Prop} {w W : World} {B : Nat} {e : TypeId} {sz : Nat} {v : Value} {n : Nat} {xs : List Value} (h : w.ownsRow B e sz v n xs) (ha : But S w W) (hn : ∀ k, v.ownBlock = some k → ¬ S k) : W.ownsRow B e sz v n xs := by
  refine ⟨h.1, ?_⟩
  rcases h.2 with hn | ⟨g, cap, cur, h1, h2, h3, h4⟩
  · exact Or.inl hn
  · have hlt : g < w.heap.size := by
      rcases Nat.lt_or_ge g w.heap.size with h' | h'
      · exact h'
      · rw [Array.getElem?_eq_none h'] at h3; cases h3
    exact Or.inr ⟨g, cap, cur, h1, h2, (ha.block g hlt (hn g (by rw [h1]; rfl))).trans h3, h4⟩
theorem own_after {w W : World} {B : Nat} {e : TypeId} {sz : Nat} {v : Value} {n : Nat} {xs : List Value} (h : w.ownsRow B e sz v n xs) (ha : After w W) : W.ownsRow B e sz v n xs := own_but h ha (fun _ _ t => t)
theorem own_base {w : World} {B C : Nat} {e : TypeId} {sz : Nat} {v : Value} {n : Nat} {xs : List Value} (h : w.ownsRow B e sz v n xs) (hc : ∀ k, v.ownBlock = some k → C ≤ k) : w.ownsRow C e sz v n xs := by
  refine ⟨h.1, ?_⟩
  rcases h.2 with hn | ⟨g, cap, cur, h1, h2, h3⟩
  · exact Or.inl hn
  · exact Or.inr ⟨g, cap, cur, h1, hc g (by rw [h1]; rfl), h3⟩
/-- What is owned is a row. -/
theorem own_row {w : World} {B : Nat} {v : Value} {n : Nat} {zs : List Int} (h : w.ownsRow B 5 1 v n (u8s zs)) (hb : Bs zs) : ∃ a c, v = .slice a n c ∧ Row w a n zs ∧ (a = none → n = 0 ∧ c = 0) ∧ n ≤ c ∧ (∀ x, a = some x → v.ownBlock = some x.block ∧ x = ⟨x.block, 0, none⟩) := by
  have hl : zs.length = n := by have := h.1; simp [u8s] at this; exact this
  rcases h.2 with ⟨rfl, rfl⟩ | ⟨g, cap, cur, rfl, _, _, hnc, _⟩
  · exact ⟨none, 0, rfl, ⟨hl, hb, fun i hi => absurd hi (by omega)⟩, fun _ => ⟨rfl, rfl⟩, by omega, fun x hx => by cases hx⟩
  · refine ⟨_, _, rfl, ⟨hl, hb, fun i hi => ⟨g, 0, rfl, (h.lt g rfl).2, ?_⟩⟩, (fun h => by cases h), hnc, fun x hx => by cases hx; exact ⟨rfl, rfl⟩⟩
    have := h.cellAt i (by omega)
    rw [Nat.zero_add, this]
    have hi' : i < zs.length := by omega
    simp [u8s, hi']
theorem row_news {w : World} {x : Addr} {n : Nat} {zs : List Int} (h : Row w (some x) n zs) : ∀ j u, (u8s zs)[j]? = some u → w.cell? (x.add j) = some u := by
  intro j u hj
  have hjl : j < zs.length := by
    rcases Nat.lt_or_ge j zs.length with h' | h'
    · exact h'
    · simp [u8s, h'] at hj
  obtain ⟨b, off, e, _, hc⟩ := h.2.2 j (by rw [← h.1]; exact hjl)
  cases e
  have hu : u = .int .u8 (zs.getD j 0) := by simp [u8s, hjl] at hj; simp [hjl, ← hj]
  rw [hu]
  have e : (⟨b, off, none⟩ : Addr).add j = ⟨b, off + j, none⟩ := by simp [Addr.add]
  rw [e]; exact hc
theorem u8s_one (zs : List Int) : ∀ u ∈ u8s zs, u.oneCell' = true := by
  intro u hu
  obtain ⟨z, _, rfl⟩ := List.mem_map.1 hu
  rfl
/-- A block of two cells: what it is read as, and behind a store. -/
theorem two_at {w : World} {g : Nat} {T : TypeId} {x y : Value} (h : w.heap[g]? = some (.cells #[x, y] T (0, 0))) :
    g < w.heap.size ∧ w.cell? ⟨g, 0, none⟩ = some x ∧ w.cell? ⟨g, 1, none⟩ = some y ∧ w.frozen? ⟨g, 0, none⟩ = false ∧ w.frozen? ⟨g, 1, none⟩ = false := by
  refine ⟨(Array.getElem?_eq_some_iff.1 h).1, ?_, ?_, ?_, ?_⟩
  · simp [World.cell?, h]
  · simp [World.cell?, h]
  · simp [World.frozen?, h]
  · simp [World.frozen?, h]
theorem two_new (w : World) (T : TypeId) (x y : Value) : (w.alloc (.cells #[x, y] T)).heap[w.heap.size]? = some (.cells #[x, y] T (0, 0)) := heap_alloc_new w _
theorem two_set0 {w : World} {g : Nat} {T : TypeId} {x y : Value} (h : w.heap[g]? = some (.cells #[x, y] T (0, 0))) (v : Value) : (w.setCell ⟨g, 0, none⟩ v).heap[g]? = some (.cells #[v, y] T (0, 0)) := by
  simp [World.setCell, Array.getElem?_modify, h]
theorem two_set1 {w : World} {g : Nat} {T : TypeId} {x y : Value} (h : w.heap[g]? = some (.cells #[x, y] T (0, 0))) (v : Value) : (w.setCell ⟨g, 1, none⟩ v).heap[g]? = some (.cells #[x, v] T (0, 0)) := by
  simp [World.setCell, Array.getElem?_modify, h]
/-- A block of one cell. -/
theorem one_at {w : World} {g : Nat} {T : TypeId} {x : Value} (h : w.heap[g]? = some (.cells #[x] T (0, 0))) :
    g < w.heap.size ∧ w.cell? ⟨g, 0, none⟩ = some x ∧ w.frozen? ⟨g, 0, none⟩ = false := by
  refine ⟨(Array.getElem?_eq_some_iff.1 h).1, ?_, ?_⟩
  · simp [World.cell?, h]
  · simp [World.frozen?, h]
theorem one_set {w : World} {g : Nat} {T : TypeId} {x : Value} (h : w.heap[g]? = some (.cells #[x] T (0, 0))) (v : Value) : (w.setCell ⟨g, 0, none⟩ v).heap[g]? = some (.cells #[v] T (0, 0)) := by
  simp [World.setCell, Array.getElem?_modify, h]
end Go.Proofs.YthcfdoafncbliaaGreat
/-
  Numbers as bytes, over lists of whole numbers alone: what is read of bytes, what is written.
-/
namespace Go.Proofs.YthcfdoafncbliaaGreat
/-- A number, its highest byte first. -/
def be (zs : List Int) : Int := zs.foldl (fun v x => v * 256 + x) 0
theorem be_snoc (zs : List Int) (x : Int) : be (zs ++ [x]) = be zs * 256 + x := by unfold be; rw [List.foldl_append]; rfl
theorem take_more {zs : List Int} {i : Nat} (h : i < zs.length) : zs.take (i + 1) = zs.take i ++ [zs.getD i 0] := by
  rw [List.take_succ_eq_append_getElem h]; simp [h]
theorem be_more {zs : List Int} {i : Nat} (h : i < zs.length) : be (zs.take (i + 1)) = be (zs.take i) * 256 + zs.getD i 0 := by rw [take_more h, be_snoc]
theorem be_zero (zs : List Int) : be (zs.take 0) = 0 := by rw [List.take_zero]; rfl
theorem be_bound {zs : List Int} (hb : Bs zs) : ∀ i, i ≤ zs.length → 0 ≤ be (zs.take i) ∧ be (zs.take i) < 256 ^ i := by
  intro i
  induction i with
  | zero => intro _; rw [be_zero]; decide
  | succ i ih =>
    intro h
    have h1 := ih (by omega)
    have h2 := hb.at (i := i) (by omega)
    rw [be_more (by omega), Int.pow_succ]
    generalize (256 : Int) ^ i = P at *
    omega
theorem be_bound1 {zs : List Int} (hb : Bs zs) (h : 1 ≤ zs.length) : 0 ≤ be (zs.take 1) ∧ be (zs.take 1) < 256 := be_bound hb 1 h
theorem be_bound2 {zs : List Int} (hb : Bs zs) (h : 2 ≤ zs.length) : 0 ≤ be (zs.take 2) ∧ be (zs.take 2) < 65536 := be_bound hb 2 h
theorem be_bound4 {zs : List Int} (hb : Bs zs) (h : 4 ≤ zs.length) : 0 ≤ be (zs.take 4) ∧ be (zs.take 4) < 4294967296 := be_bound hb 4 h
theorem be_below {zs : List Int} (hb : Bs zs) {i k : Nat} (hi : i < k) (hk : k ≤ 4) (h : k ≤ zs.length) : 0 ≤ be (zs.take i) ∧ be (zs.take i) < 16777216 := by
  have h1 := be_bound hb i (by omega)
  have hp : (256 : Int) ^ i ≤ 16777216 := by
    have : i = 0 ∨ i = 1 ∨ i = 2 ∨ i = 3 := by omega
    rcases this with rfl | rfl | rfl | rfl <;> decide
  omega
/-- What a number of k bytes reads. -/
def rdVal (k : Nat) (zs : List Int) : Int := if k ≤ zs.length then be (zs.take k) else 0
def rdErr (k : Nat) (zs : List Int) : Int := if k ≤ zs.length then 0 else 3
def rdRest (k : Nat) (zs : List Int) : List Int := if k ≤ zs.length then zs.drop k else zs
theorem rdVal_yes {k : Nat} {zs : List Int} (h : k ≤ zs.length) : rdVal k zs = be (zs.take k) := if_pos h
theorem rdErr_yes {k : Nat} {zs : List Int} (h : k ≤ zs.length) : rdErr k zs = 0 := if_pos h
theorem rdRest_yes {k : Nat} {zs : List Int} (h : k ≤ zs.length) : rdRest k zs = zs.drop k := if_pos h
theorem rdVal_no {k : Nat} {zs : List Int} (h : ¬ k ≤ zs.length) : rdVal k zs = 0 := if_neg h
theorem rdErr_no {k : Nat} {zs : List Int} (h : ¬ k ≤ zs.length) : rdErr k zs = 3 := if_neg h
theorem rdRest_no {k : Nat} {zs : List Int} (h : ¬ k ≤ zs.length) : rdRest k zs = zs := if_neg h
theorem rdVal_bound {zs : List Int} (hb : Bs zs) (k : Nat) (hk : k ≤ 4) : 0 ≤ rdVal k zs ∧ rdVal k zs < 4294967296 := by
  unfold rdVal
  split
  · rename_i h
    have h1 := be_bound hb k h
    have hp : (256 : Int) ^ k ≤ 4294967296 := by
      have : k = 0 ∨ k = 1 ∨ k = 2 ∨ k = 3 ∨ k = 4 := by omega
      rcases this with rfl | rfl | rfl | rfl | rfl <;> decide
    omega
  · omega
/-- How many bytes octets say. -/
def ocN (zs : List Int) : Nat := (be (zs.take 2)).toNat
theorem ocN_int {zs : List Int} (hb : Bs zs) (h : 2 ≤ zs.length) : be (zs.take 2) = (ocN zs : Int) ∧ ocN zs < 65536 := by
  have := be_bound2 hb h
  unfold ocN; omega
def ocIs (zs : List Int) : Bool := decide (2 ≤ zs.length ∧ ocN zs ≤ zs.length - 2)
def ocVal (zs : List Int) : List Int := if ocIs zs = true then (zs.drop 2).take (ocN zs) else []
def ocErr (zs : List Int) : Int := if ocIs zs = true then 0 else 3
def ocRest (zs : List Int) : List Int := if ocIs zs = true then (zs.drop 2).drop (ocN zs) else zs
theorem ocIs_yes {zs : List Int} (h : 2 ≤ zs.length) (k : ocN zs ≤ zs.length - 2) : ocIs zs = true := decide_eq_true ⟨h, k⟩
theorem ocIs_no {zs : List Int} (h : ¬ (2 ≤ zs.length ∧ ocN zs ≤ zs.length - 2)) : ocIs zs = false := decide_eq_false h
theorem oc_yes {zs : List Int} (h : 2 ≤ zs.length) (k : ocN zs ≤ zs.length - 2) : ocVal zs = (zs.drop 2).take (ocN zs) ∧ ocErr zs = 0 ∧ ocRest zs = (zs.drop 2).drop (ocN zs) ∧ (ocVal zs).length = ocN zs := by
  have e := ocIs_yes h k
  have e1 : ocVal zs = (zs.drop 2).take (ocN zs) := if_pos e
  refine ⟨e1, if_pos e, if_pos e, ?_⟩
  rw [e1, List.length_take, List.length_drop]; omega
theorem oc_no {zs : List Int} (h : ¬ (2 ≤ zs.length ∧ ocN zs ≤ zs.length - 2)) : ocVal zs = [] ∧ ocErr zs = 3 ∧ ocRest zs = zs := by
  have e := ocIs_no h
  exact ⟨if_neg (by simp [e]), if_neg (by simp [e]), if_neg (by simp [e])⟩
theorem ocVal_bs {zs : List Int} (hb : Bs zs) : Bs (ocVal zs) := by
  unfold ocVal
  split
  · exact (hb.drop 2).take _
  · exact Bs.nil
theorem ocVal_len {zs : List Int} (hb : Bs zs) : (ocVal zs).length < 65536 := by
  by_cases h : 2 ≤ zs.length ∧ ocN zs ≤ zs.length - 2
  · rw [(oc_yes h.1 h.2).2.2.2]; exact (ocN_int hb h.1).2
  · rw [(oc_no h).1]; decide
/-- The k bytes of a number, the highest first. -/
def bytesOf : Nat → Int → List Int
  | 0, _ => []
  | k + 1, v => v / 256 ^ k % 256 :: bytesOf k v
theorem bytesOf_bs (k : Nat) (v : Int) : Bs (bytesOf k v) := by
  induction k with
  | zero => exact Bs.nil
  | succ k ih =>
    intro z hz
    rcases List.mem_cons.1 hz with e | e
    · omega
    · exact ih z e
theorem bytesOf_length (k : Nat) (v : Int) : (bytesOf k v).length = k := by
  induction k with
  | zero => rfl
  | succ k ih => show (bytesOf k v).length + 1 = _; rw [ih]
end Go.Proofs.YthcfdoafncbliaaGreat
/-
  A reader of package mder: what it has; isNone, take.
-/
namespace Go.Proofs.YthcfdoafncbliaaGreat
open Go.RowKit
/-- A pointer to the block g. -/
abbrev Ptr (g : Nat) : Value := .pointer (some ⟨g, 0, none⟩)
/-- At block g there is a reader, the bytes zs are left to it, they lie in block h (g itself: nowhere). -/
def RdAt (w : World) (g h : Nat) (zs : List Int) : Prop :=
  ∃ a n c, w.heap[g]? = some (.cells #[.bool true, .slice a n c] 129 (0, 0)) ∧ Row w a n zs ∧ n ≤ c ∧ n ≤ 140737488355328 ∧ ((a = none ∧ n = 0 ∧ c = 0 ∧ h = g) ∨ ∃ off, a = some ⟨h, off, none⟩ ∧ h ≠ g ∧ h < w.heap.size)
theorem RdAt.but {S : Nat → Prop} {w w' : World} {g h : Nat} {zs : List Int} (r : RdAt w g h zs) (b : But S w w') (hg : ¬ S g) (hh : ¬ S h) : RdAt w' g h zs := by
  obtain ⟨a, n, c, h1, h2, h3, h4, h5⟩ := r
  refine ⟨a, n, c, (b.block g (two_at h1).1 hg).trans h1, h2.but b (fun x hx => ?_), h3, h4, h5.imp_right (fun ⟨off, e, hne, hl⟩ => ⟨off, e, hne, Nat.lt_of_lt_of_le hl b.size⟩)⟩
  rcases h5 with ⟨e, _⟩ | ⟨off, e, _⟩
  · rw [e] at hx; cases hx
  · rw [e] at hx; cases hx; exact hh
theorem RdAt.after {w w' : World} {g h : Nat} {zs : List Int} (r : RdAt w g h zs) (b : After w w') : RdAt w' g h zs := r.but b (fun t => t) (fun t => t)
theorem RdAt.bs {w : World} {g h : Nat} {zs : List Int} (r : RdAt w g h zs) : Bs zs := by
  obtain ⟨a, n, c, h1, h2, h3, h4, h5⟩ := r
  exact h2.2.1
theorem RdAt.len {w : World} {g h : Nat} {zs : List Int} (r : RdAt w g h zs) : zs.length ≤ 140737488355328 := by
  obtain ⟨a, n, c, h1, h2, h3, h4, h5⟩ := r
  rw [h2.1]; exact h4
theorem RdAt.lt {w : World} {g h : Nat} {zs : List Int} (r : RdAt w g h zs) : g < w.heap.size := by
  obtain ⟨a, n, c, h1, _⟩ := r
  exact (two_at h1).1
theorem RdAt.ne {w : World} {g h : Nat} {zs : List Int} (r : RdAt w g h zs) (h0 : 0 < zs.length) : h ≠ g ∧ h < w.heap.size := by
  obtain ⟨a, n, c, h1, h2, h3, h4, h5⟩ := r
  rcases h5 with ⟨_, e, _⟩ | ⟨off, e, hne, hl⟩
  · have := h2.1; omega
  · exact ⟨hne, hl⟩
theorem isNone_no {w : World} {g : Nat} {T : TypeId} {y : Value} (h : w.heap[g]? = some (.cells #[.bool true, y] T (0, 0))) :
    Calls Tryz.prog 96 #[Ptr g] w fun e w' => e = .returned (.bool false) ∧ w' = w := by
  obtain ⟨_, hc0, hc1, hf0, hf1⟩ := two_at h
  clear h
  go_enter Tryz.func96, Tryz.ntmps96
  go_wp2
  go_ret
  exact ⟨rfl, rfl⟩
theorem isNone_nil (w : World) : Calls Tryz.prog 96 #[.pointer none] w fun e w' => e = .returned (.bool true) ∧ w' = w := by
  go_enter Tryz.func96, Tryz.ntmps96
  go_wp2
  go_ret
  exact ⟨rfl, rfl⟩
theorem isNone_zero {w : World} {g : Nat} {T : TypeId} {y : Value} (h : w.heap[g]? = some (.cells #[.bool false, y] T (0, 0))) :
    Calls Tryz.prog 96 #[Ptr g] w fun e w' => e = .returned (.bool true) ∧ w' = w := by
  obtain ⟨_, hc0, hc1, hf0, hf1⟩ := two_at h
  clear h
  go_enter Tryz.func96, Tryz.ntmps96
  go_wp2
  go_ret
  exact ⟨rfl, rfl⟩
theorem take_no (w : World) (g h k : Nat) (zs : List Int) (r : RdAt w g h zs) (hk : ¬ k ≤ zs.length) :
    Calls Tryz.prog 104 #[Ptr g, .int .i64 k] w fun e w' => e = .returned (.tuple #[.slice none 0 0, .int .i64 3]) ∧ w' = w := by
  obtain ⟨a, n, c, h1, h2, h3, h4, h5⟩ := r
  have HN := hideIt (isNone_no h1)
  obtain ⟨_, hc0, hc1, hf0, hf1⟩ := two_at h1
  have hlt : (n : Int) < (k : Int) := by have := h2.1; omega
  clear h1 h2 h3 h5 hk
  go_enter Tryz.func104, Tryz.ntmps104
  go_wp2_with (go_at_call 96; refine HN.out.mono ?_; rintro e w' ⟨rfl, rfl⟩)
  go_ret2
  exact ⟨rfl, rfl⟩
theorem But.own1 (w : World) (g o : Nat) (v : Value) : But (One g) w (w.setCell ⟨g, o, none⟩ v) := But.set (S := One g) But.rfl ⟨g, o, none⟩ (fun _ => Eq.refl g) v
/-- Behind the store of what is left. -/
theorem rd_store {w : World} {g h off n c k : Nat} {zs : List Int} (h1 : w.heap[g]? = some (.cells #[.bool true, .slice (some ⟨h, off, none⟩) n c] 129 (0, 0))) (h2 : Row w (some ⟨h, off, none⟩) n zs) (_hc : n ≤ c) (h4 : n ≤ 140737488355328) (hne : h ≠ g) (hlt : h < w.heap.size) (hk : k ≤ n) (off' c' : Nat) (ho : off' = off + k ∨ (off' = off ∧ n - k = 0)) (hc' : n - k ≤ c') :
    RdAt (w.setCell ⟨g, 1, none⟩ (.slice (some ⟨h, off', none⟩) (n - k) c')) g h (zs.drop k) ∧ But (One g) w (w.setCell ⟨g, 1, none⟩ (.slice (some ⟨h, off', none⟩) (n - k) c')) ∧ Row (w.setCell ⟨g, 1, none⟩ (.slice (some ⟨h, off', none⟩) (n - k) c')) (some ⟨h, off, none⟩) k (zs.take k) := by
  have hb : But (One g) w (w.setCell ⟨g, 1, none⟩ (.slice (some ⟨h, off', none⟩) (n - k) c')) := But.own1 _ _ _ _
  refine ⟨⟨_, _, _, two_set1 h1 _, ?_, hc', by omega, .inr ⟨off', rfl, hne, Nat.lt_of_lt_of_le hlt hb.size⟩⟩, hb, (h2.take hk).but hb (fun x hx => by cases hx; exact hne)⟩
  refine Row.but ?_ hb (fun x hx => by cases hx; exact hne)
  rcases ho with rfl | ⟨rfl, h0⟩
  · exact h2.drop hk
  · have e : zs.drop k = [] := List.drop_eq_nil_of_le (by rw [h2.1]; omega)
    rw [e, h0]; exact Row.nil _ _
theorem take_yes (w : World) (g h k : Nat) (zs : List Int) (r : RdAt w g h zs) (hk : k ≤ zs.length) :
    Calls Tryz.prog 104 #[Ptr g, .int .i64 k] w fun e w' => ∃ a, e = .returned (.tuple #[.slice a k k, .int .i64 0]) ∧ Row w' a k (zs.take k) ∧ RdAt w' g h (zs.drop k) ∧ But (One g) w w' ∧ (h ≠ g → ∃ off, a = some ⟨h, off, none⟩) ∧ (a = none → k = 0) := by
  obtain ⟨a, n, c, h1, h2, h3, h4, h5⟩ := r
  have HN := hideIt (isNone_no h1)
  obtain ⟨_, hc0, hc1, hf0, hf1⟩ := two_at h1
  have hl := h2.1
  rcases h5 with ⟨rfl, rfl, rfl, rfl⟩ | ⟨off, rfl, hne, hhl⟩
  · obtain rfl : k = 0 := by omega
    have hz : zs = [] := List.length_eq_zero_iff.1 hl
    subst hz
    have H1 := hideIt h1
    clear h1 h2 hl hk h3 h4
    go_enter Tryz.func104, Tryz.ntmps104
    go_wp2_with (go_at_call 96; refine HN.out.mono ?_; rintro e w' ⟨rfl, rfl⟩)
    go_ret2
    exact ⟨none, rfl, Row.nil _ _, ⟨none, 0, 0, two_set1 H1.out _, Row.nil _ _, Nat.le_refl _, by omega, .inl ⟨rfl, rfl, rfl, rfl⟩⟩, But.own1 _ _ _ _, fun h => absurd rfl h, fun _ => by simp⟩
  · have hle : (k : Int) ≤ (n : Int) := by omega
    have hcn : (n : Int) ≤ (c : Int) := by omega
    have HB := hideIt (fun o c' ho hc' => rd_store h1 h2 h3 h4 hne hhl (show k ≤ n by omega) o c' ho hc')
    clear h1 h2 h4 hk h3 hl hne hhl
    go_enter Tryz.func104, Tryz.ntmps104
    go_wp2_with (go_at_call 96; refine HN.out.mono ?_; rintro e w' ⟨rfl, rfl⟩)
    · rename_i hck
      obtain ⟨x1, x2, x3⟩ := HB.out off 0 (.inr ⟨rfl, by omega⟩) (by omega)
      go_ret2
      exact ⟨_, rfl, x3, x1, x2, fun _ => ⟨_, rfl⟩, fun h => by cases h⟩
    · obtain ⟨x1, x2, x3⟩ := HB.out (off + k) (c - k) (.inl rfl) (by omega)
      go_ret2
      exact ⟨_, rfl, x3, x1, x2, fun _ => ⟨_, rfl⟩, fun h => by cases h⟩
end Go.Proofs.YthcfdoafncbliaaGreat
/-
  Numbers that a reader of package mder reads: number, U8, U16, U32; Left.
-/
namespace Go.Proofs.YthcfdoafncbliaaGreat
open Go.RowKit
/-- A byte behind a number. -/
theorem or_byte (v x : Nat) (hv : v < 16777216) (hx : x < 256) : bits .or .u32 ((v : Int) * 256) (x : Int) = (v : Int) * 256 + (x : Int) := by
  have h := u32_or_nat (v * 256) x (by omega) (by omega)
  have e : v * 256 ||| x = v * 256 + x := by
    have := Nat.two_pow_add_eq_or_of_lt (i := 8) (b := x) (by omega) v
    have e2 : 2 ^ 8 * v = v * 256 := by omega
    rw [e2] at this
    exact this.symm
  rw [e] at h
  simpa using h
theorem wrap_shl (v : Nat) (hv : v < 16777216) : IntKind.u32.wrap ((v : Int) * 256) = (v : Int) * 256 := by
  rw [IntKind.wrap_u32]; omega
set_option maxRecDepth 100000 in
set_option maxHeartbeats 1000000 in
theorem number_any (w : World) (g h k : Nat) (zs : List Int) (r : RdAt w g h zs) (hk : k ≤ 4) (h0 : 0 < k) :
    Calls Tryz.prog 102 #[Ptr g, .int .i64 k] w fun e w' => e = .returned (.tuple #[.int .u32 (rdVal k zs), .int .i64 (rdErr k zs)]) ∧ RdAt w' g h (rdRest k zs) ∧ But (One g) w w' := by
  by_cases hl : k ≤ zs.length
  · rw [rdVal_yes hl, rdErr_yes hl, rdRest_yes hl]
    have HT := hideIt (take_yes w g h k zs r hl)
    have HB := hideIt r.bs
    have H0 := hideIt (r.ne (by omega)).1
    have H4 := hideIt hk
    have HL := hideIt hl
    have Z0 := hideIt (be_zero zs).symm
    clear r hk h0 hl
    go_enter Tryz.func102, Tryz.ntmps102
    go_wp2_with fail
    refine HT.out.mono ?_
    rintro e w1 ⟨a, rfl, hr, hd, hb, ho, _⟩
    obtain ⟨off, rfl⟩ := ho H0.out
    have HR := hideIt hr
    have HD := hideIt hd
    have HU := hideIt hb
    clear hr hd hb ho HT
    go_wp2_with fail
    go_loop [8, 22] (fun s i => ∃ j : Nat, j ≤ k ∧ i = .int .i64 j ∧ s = .int .u32 (be (zs.take j))) (fun _ i => k - (intOf i).toNat)
    case atStart => exact ⟨0, by omega, rfl, congrArg (fun x : Int => Value.int .u32 x) Z0.out⟩
    case round =>
      obtain ⟨j, hj, rfl, rfl⟩ := hrel
      by_cases hlt : j < k
      · obtain ⟨b, o, x, e, hbl, hx, hzx, hcx⟩ := HR.out.at hlt
        cases e
        rw [getD_take zs hlt] at hzx
        have hm := be_more (zs := zs) (i := j) (by have := HL.out; omega)
        have hbd := be_below HB.out hlt H4.out HL.out
        rw [hzx] at hm
        obtain ⟨v, hv⟩ := Int.eq_ofNat_of_zero_le hbd.1
        rw [hv] at hm hbd ⊢
        have q1 := or_byte v x (by omega) hx
        have q2 := wrap_shl v (by omega)
        have HM := hideIt hm
        have k4 : (k : Int) ≤ 4 := by have := H4.out; omega
        clear HR HD HB HL Z0 hm hv hzx hbd
        go_wp2
        go_round
        case rel => exact ⟨j + 1, by omega, by go_num, congrArg (fun x : Int => Value.int .u32 x) HM.out.symm⟩
        case measure => simp [intOf]; omega
      · obtain rfl : j = k := by omega
        go_wp2
        go_ret2
        exact ⟨rfl, HD.out, HU.out⟩
  · rw [rdVal_no hl, rdErr_no hl, rdRest_no hl]
    have HT := hideIt (take_no w g h k zs r hl)
    have HR := hideIt r
    clear r hk h0 hl
    go_enter Tryz.func102, Tryz.ntmps102
    go_wp2_with (go_at_call 104; refine HT.out.mono ?_; rintro e w' ⟨rfl, rfl⟩)
    go_ret2
    exact ⟨rfl, HR.out, But.rfl⟩
theorem u8_any (w : World) (g h : Nat) (zs : List Int) (r : RdAt w g h zs) :
    Calls Tryz.prog 110 #[Ptr g] w fun e w' => e = .returned (.tuple #[.int .i64 (rdVal 1 zs), .int .i64 (rdErr 1 zs)]) ∧ RdAt w' g h (rdRest 1 zs) ∧ But (One g) w w' := by
  have HT := hideIt (number_any w g h 1 zs r (by decide) (by decide))
  obtain ⟨b1, b2⟩ := rdVal_bound r.bs 1 (by decide)
  generalize rdVal 1 zs = v at *
  generalize rdErr 1 zs = q at *
  generalize rdRest 1 zs = ys at *
  clear r
  go_enter Tryz.func110, Tryz.ntmps110
  go_wp2_with (go_at_call 102; refine HT.out.mono ?_; rintro e w1 ⟨rfl, hr, hb⟩; have HR := hideIt hr; have HB := hideIt hb; clear hr hb)
  go_ret2
  exact ⟨rfl, HR.out, HB.out⟩
theorem u16_any (w : World) (g h : Nat) (zs : List Int) (r : RdAt w g h zs) :
    Calls Tryz.prog 90 #[Ptr g] w fun e w' => e = .returned (.tuple #[.int .i64 (rdVal 2 zs), .int .i64 (rdErr 2 zs)]) ∧ RdAt w' g h (rdRest 2 zs) ∧ But (One g) w w' := by
  have HT := hideIt (number_any w g h 2 zs r (by decide) (by decide))
  obtain ⟨b1, b2⟩ := rdVal_bound r.bs 2 (by decide)
  generalize rdVal 2 zs = v at *
  generalize rdErr 2 zs = q at *
  generalize rdRest 2 zs = ys at *
  clear r
  go_enter Tryz.func90, Tryz.ntmps90
  go_wp2_with (go_at_call 102; refine HT.out.mono ?_; rintro e w1 ⟨rfl, hr, hb⟩; have HR := hideIt hr; have HB := hideIt hb; clear hr hb)
  go_ret2
  exact ⟨rfl, HR.out, HB.out⟩
theorem u32_any (w : World) (g h : Nat) (zs : List Int) (r : RdAt w g h zs) :
    Calls Tryz.prog 108 #[Ptr g] w fun e w' => e = .returned (.tuple #[.int .u32 (rdVal 4 zs), .int .i64 (rdErr 4 zs)]) ∧ RdAt w' g h (rdRest 4 zs) ∧ But (One g) w w' := by
  have HT := hideIt (number_any w g h 4 zs r (by decide) (by decide))
  generalize rdVal 4 zs = v at *
  generalize rdErr 4 zs = q at *
  generalize rdRest 4 zs = ys at *
  clear r
  go_enter Tryz.func108, Tryz.ntmps108
  go_wp2_with (go_at_call 102; refine HT.out.mono ?_; rintro e w1 ⟨rfl, hr, hb⟩; have HR := hideIt hr; have HB := hideIt hb; clear hr hb)
  go_ret2
  exact ⟨rfl, HR.out, HB.out⟩
theorem left_any (w : World) (g h : Nat) (zs : List Int) (r : RdAt w g h zs) :
    Calls Tryz.prog 84 #[Ptr g] w fun e w' => e = .returned (.int .i64 zs.length) ∧ w' = w := by
  obtain ⟨a, n, c, h1, h2, h3, h4, h5⟩ := r
  have HN := hideIt (isNone_no h1)
  obtain ⟨_, hc0, hc1, hf0, hf1⟩ := two_at h1
  have HL := hideIt h2.1
  clear h1 h2 h3 h5 h4
  go_enter Tryz.func84, Tryz.ntmps84
  go_wp2_with (go_at_call 96; refine HN.out.mono ?_; rintro e w' ⟨rfl, rfl⟩)
  go_ret
  exact ⟨ret_int (by rw [HL.out]), rfl⟩
end Go.Proofs.YthcfdoafncbliaaGreat
