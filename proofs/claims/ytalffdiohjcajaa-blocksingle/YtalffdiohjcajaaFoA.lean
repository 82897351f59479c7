/-
  Rows of structs in memory, handed in or one's own: nodes, channels, readings, rows of readings; appended to.
-/
import Derived.Test.YtalffdiohjcajaaFoP
import Derived.Test.YtalffdiohjcajaaBlk
import Derived.Deep.AppendLies
import Derived.Maps.OwnSet
namespace Go.Proofs.Ytalffdiohjcajaa
open Go.RowKit
set_option maxRecDepth 8000
/-- How a thing lies in cells. -/
structure Enc (α : Type) where
  k : Nat
  enc : α → List Value
  len : ∀ x, (enc x).length = k
  one : ∀ x, ∀ u ∈ enc x, u.oneCell' = true
  pos : 0 < k
variable {α : Type}
def Enc.flat (E : Enc α) (xs : List α) : List Value := xs.flatMap E.enc
theorem Enc.flat_cons (E : Enc α) (x : α) (xs : List α) : E.flat (x :: xs) = E.enc x ++ E.flat xs := by simp [Enc.flat]
theorem Enc.flat_append (E : Enc α) (xs ys : List α) : E.flat (xs ++ ys) = E.flat xs ++ E.flat ys := by simp [Enc.flat]
theorem Enc.flat_length (E : Enc α) (xs : List α) : (E.flat xs).length = xs.length * E.k := by
  induction xs with
  | nil => simp [Enc.flat]
  | cons x r ih => rw [E.flat_cons, List.length_append, ih, E.len, List.length_cons, Nat.add_mul]; omega
theorem Enc.flat_one (E : Enc α) (xs : List α) : ∀ u ∈ E.flat xs, u.oneCell' = true := by
  intro u hu
  unfold Enc.flat at hu
  obtain ⟨x, _, h⟩ := List.mem_flatMap.1 hu
  exact E.one x u h
theorem Enc.flat_at (E : Enc α) : ∀ (xs : List α) (i : Nat) (x : α), xs[i]? = some x → ∀ j, j < E.k → (E.flat xs)[i * E.k + j]? = (E.enc x)[j]?
  | [], _, _, h, _, _ => by simp at h
  | y :: r, 0, x, h, j, hj => by
    simp at h
    subst h
    rw [E.flat_cons, Nat.zero_mul, Nat.zero_add, List.getElem?_append_left (by rw [E.len]; exact hj)]
  | y :: r, i + 1, x, h, j, hj => by
    rw [E.flat_cons, List.getElem?_append_right (by rw [E.len, Nat.add_mul]; omega), E.len, ← Enc.flat_at E r i x (by simpa using h) j hj]
    congr 1
    rw [Nat.add_mul]; omega
/-- Things lie where a slice of n places leads. -/
def GRow (E : Enc α) (w : World) (a : Option Addr) (n : Nat) (xs : List α) : Prop :=
  xs.length = n ∧ ∀ i, i < n → ∃ b off x, a = some ⟨b, off, none⟩ ∧ b < w.heap.size ∧ xs[i]? = some x ∧ ∀ j v, (E.enc x)[j]? = some v → w.cell? ⟨b, off + i * E.k + j, none⟩ = some v
theorem GRow.but {E : Enc α} {S : Nat → Prop} {w w' : World} {a n xs} (h : GRow E w a n xs) (ha : But S w w') (hn : ∀ x, a = some x → 0 < n → ¬ S x.block) : GRow E w' a n xs :=
  ⟨h.1, fun i hi => by
    obtain ⟨b, off, x, e, hb, hx, h1⟩ := h.2 i hi
    exact ⟨b, off, x, e, Nat.lt_of_lt_of_le hb ha.size, hx, fun j v hv => (ha.cell hb (hn _ e (by omega)) _).trans (h1 j v hv)⟩⟩
theorem GRow.after {E : Enc α} {w w' : World} {a n xs} (h : GRow E w a n xs) (ha : After w w') : GRow E w' a n xs := h.but ha (fun _ _ _ t => t)
theorem GRow.nil (E : Enc α) (w : World) (a : Option Addr) : GRow E w a 0 [] := ⟨rfl, fun i hi => absurd hi (by omega)⟩
theorem GRow.lt {E : Enc α} {w : World} {a n xs} (h : GRow E w a n xs) (hn : 0 < n) : ∃ b off, a = some ⟨b, off, none⟩ ∧ b < w.heap.size := by
  obtain ⟨b, off, x, e, hb, _⟩ := h.2 0 hn
  exact ⟨b, off, e, hb⟩
theorem GRow.take {E : Enc α} {w : World} {a n xs} (h : GRow E w a n xs) {k : Nat} (hk : k ≤ n) : GRow E w a k (xs.take k) :=
  ⟨by rw [List.length_take, h.1]; omega, fun i hi => by
    obtain ⟨b, off, x, e, hb, hx, h1⟩ := h.2 i (by omega)
    exact ⟨b, off, x, e, hb, by rw [List.getElem?_take_of_lt hi]; exact hx, h1⟩⟩
/-- The block is a map's. -/
def MapAt (w : World) (g : Nat) : Prop := ∃ es c, w.heap[g]? = some (.map es c)
theorem MapAt.cell {w : World} {g b o : Nat} {v : Value} (h : MapAt w g) (hc : w.cell? ⟨b, o, none⟩ = some v) : b ≠ g := by
  rintro rfl
  obtain ⟨es, c, hm⟩ := h
  simp [World.cell?, hm] at hc
theorem cell_lt {W : World} {b off : Nat} {v : Value} (h : W.cell? ⟨b, off, none⟩ = some v) : b < W.heap.size := by
  rcases Nat.lt_or_ge b W.heap.size with h' | h'
  · exact h'
  · unfold World.cell? at h
    simp [Array.getElem?_eq_none h'] at h
/-- What lies in cells stays while a map is written to. -/
theorem cell_keep {w w' : World} {g b o : Nat} {v : Value} (hm : MapAt w g) (hb : But (One g) w w') (hc : w.cell? ⟨b, o, none⟩ = some v) : w'.cell? ⟨b, o, none⟩ = some v :=
  (hb.cell (cell_lt hc) (hm.cell hc) o).trans hc
theorem GRow.keep {E : Enc α} {w w' : World} {g : Nat} {a n xs} (h : GRow E w a n xs) (hm : MapAt w g) (hb : But (One g) w w') : GRow E w' a n xs :=
  ⟨h.1, fun i hi => by
    obtain ⟨b, off, x, e, hlt, hx, h1⟩ := h.2 i hi
    exact ⟨b, off, x, e, Nat.lt_of_lt_of_le hlt hb.size, hx, fun j v hv => cell_keep hm hb (h1 j v hv)⟩⟩
theorem add_off (b off j : Nat) : (⟨b, off, none⟩ : Addr).add j = ⟨b, off + j, none⟩ := by
  by_cases h0 : j = 0
  · subst h0; simp [Addr.add]
  · simp [Addr.add, h0]
theorem GRow.news {E : Enc α} {w : World} {x : Addr} {n : Nat} {xs : List α} (h : GRow E w (some x) n xs) : ∀ j u, (E.flat xs)[j]? = some u → w.cell? (x.add j) = some u := by
  intro j u hj
  have hk := E.pos
  have hjl : j < xs.length * E.k := by
    rcases Nat.lt_or_ge j (xs.length * E.k) with h' | h'
    · exact h'
    · rw [List.getElem?_eq_none (by rw [E.flat_length]; exact h')] at hj; cases hj
  have hd : j / E.k < xs.length := (Nat.div_lt_iff_lt_mul hk).2 hjl
  obtain ⟨b, off, y, e, _, hy, h1⟩ := h.2 (j / E.k) (by rw [← h.1]; exact hd)
  cases e
  have hm : j % E.k < E.k := Nat.mod_lt _ hk
  have e1 : j = j / E.k * E.k + j % E.k := by rw [Nat.mul_comm]; exact (Nat.div_add_mod j E.k).symm
  rw [add_off]
  have h2 := E.flat_at xs (j / E.k) y hy (j % E.k) hm
  rw [← e1] at h2
  rw [h2] at hj
  have h3 := h1 (j % E.k) u hj
  rw [show off + j = off + j / E.k * E.k + j % E.k by omega]
  exact h3
/-- Things in a row of one's own, from block B on; t: their type. -/
abbrev ORow (E : Enc α) (t : TypeId) (w : World) (B : Nat) (v : Value) (xs : List α) : Prop := w.ownsRow B t E.k v xs.length (E.flat xs)
theorem ORow.row {E : Enc α} {t : TypeId} {w : World} {B : Nat} {v : Value} {xs : List α} (h : ORow E t w B v xs) : ∃ a c, v = .slice a xs.length c ∧ GRow E w a xs.length xs ∧ (a = none → xs.length = 0 ∧ c = 0) ∧ (∀ y, a = some y → B ≤ y.block ∧ y.block < w.heap.size) := by
  rcases h.2 with ⟨rfl, h0⟩ | ⟨g, cap, cur, rfl, hB, _, hnc, _⟩
  · rw [h0]
    exact ⟨none, 0, rfl, ⟨h0, fun i hi => absurd hi (by omega)⟩, fun _ => ⟨rfl, rfl⟩, fun y hy => by cases hy⟩
  · refine ⟨_, _, rfl, ⟨rfl, fun i hi => ?_⟩, (fun h => by cases h), fun y hy => by cases hy; exact h.lt g rfl⟩
    refine ⟨g, 0, xs[i], rfl, (h.lt g rfl).2, by simp [hi], fun j u hj => ?_⟩
    have hjk : j < E.k := by
      rcases Nat.lt_or_ge j E.k with h' | h'
      · exact h'
      · rw [List.getElem?_eq_none (by rw [E.len]; exact h')] at hj; cases hj
    have hle : i * E.k + j < xs.length * E.k := by
      have : (i + 1) * E.k ≤ xs.length * E.k := Nat.mul_le_mul_right _ hi
      rw [Nat.add_mul] at this
      omega
    have c0 := h.cellAt (i * E.k + j) hle
    rw [Nat.zero_add, c0, E.flat_at xs i xs[i] (by simp [hi]) j hjk, hj]
theorem orow_nil (E : Enc α) (t : TypeId) (w : World) (B : Nat) : ORow E t w B (.slice none 0 0) [] := World.ownsRow_nil w B t E.k
/-- Things that are appended to things of one's own. -/
theorem app_row {E : Enc α} {w : World} {ops : Array Oper} {rest : List Oper} {o : Oper} {act : Act} {Q : Exit → Act → World → Prop} (hgd : o.guard = none) (s x : Operand) (T t : TypeId) {z : Value} {bts : Nat}
    (hT : Try.prog.underlying T = some (.slice t)) (hinfo : (Try.prog.info? t).map (fun i => (i.zero, i.size, i.bytes)) = some (some z, E.k, bts)) (hz : z.cells.size = E.k) (_hbt : 0 < bts)
    (ho : o.op = .call { callee := .builtin .append, args := #[s, x], argTypes := #[T, T] }) (B : Nat) (v : Value) (xs : List α) (hs : act.eval s = v) (hown : ORow E t w B v xs)
    (a : Option Addr) (m c : Nat) (ys : List α) (hx : act.eval x = .slice a m c) (hr : GRow E w a m ys) (ha : a = none → m = 0 ∧ c = 0) (hb : xs.length + m ≤ maxLen) (hb2 : (xs.length + m) * bts ≤ 140737488355328) (hbase : B ≤ w.heap.size)
    (h : ∀ v' w', ORow E t w' B v' (xs ++ ys) → But (fun k => v.ownBlock = some k) w w' → wpList Try.prog ops Q rest (act.put o.dst v') w') : wpList Try.prog ops Q (o :: rest) act w := by
  obtain ⟨i0, hi, hz'⟩ := Option.map_eq_some_iff.1 hinfo
  simp only [Prod.mk.injEq] at hz'
  obtain ⟨hz0, hz1, hz2⟩ := hz'
  cases a with
  | none =>
    obtain ⟨rfl, rfl⟩ := ha rfl
    have hz : ys = [] := List.length_eq_zero_iff.1 hr.1
    subst hz
    refine wpList_append_own_none hgd s x T ho B t i0 E.k hT hi v xs.length (E.flat xs) hs hown hx ?_
    refine h v w ?_ But.rfl
    rw [List.append_nil]; exact hown
  | some ad =>
    have hl1 : (E.flat ys).length = m * E.k := by rw [E.flat_length, hr.1]
    refine wpList_append_own w hgd s x T ho B t i0 z E.k bts hT hi hz0 hz1 hz2 hz E.pos v xs.length (E.flat xs) hs hown ad m c (E.flat ys) hx hl1 hr.news (E.flat_one _) hb hb2 hbase ?_
    intro v' w' h1 h2 _
    rw [← E.flat_append] at h1
    have e : xs.length + m = (xs ++ ys).length := by rw [List.length_append, hr.1]
    rw [e] at h1
    exact h v' w' h1 (But.grown But.rfl h2 (fun k hk _ => hk))
/-- A literal, laid in a new block. -/
theorem lit_row {E : Enc α} {w : World} {g c : Nat} {cs : Array Value} {T : TypeId} {xs : List α} (h : w.heap[g]? = some (.cells cs T (0, 0))) (hz : cs.toList = E.flat xs) (hc : c = xs.length) : GRow E w (some ⟨g, 0, none⟩) c xs := by
  subst hc
  refine ⟨rfl, fun i hi => ⟨g, 0, xs[i], rfl, blk_lt h, by simp [hi], fun j v hj => ?_⟩⟩
  have hjk : j < E.k := by
    rcases Nat.lt_or_ge j E.k with h' | h'
    · exact h'
    · rw [List.getElem?_eq_none (by rw [E.len]; exact h')] at hj; cases hj
  rw [Nat.zero_add]
  refine blk_cell h ?_
  rw [← Array.getElem?_toList, hz, E.flat_at xs i xs[i] (by simp [hi]) j hjk, hj]
/-- Nodes, channels, readings, slices of readings. -/
def ndE : Enc Nd where
  k := 4
  enc x := [.int .i64 x.op, .int .i64 x.a, .int .i64 x.b, .int .i64 x.n]
  len _ := rfl
  one x u hu := by
    simp only [List.mem_cons, List.not_mem_nil, or_false] at hu
    rcases hu with rfl | rfl | rfl | rfl <;> rfl
  pos := by decide
def chE : Enc Ch where
  k := 7
  enc c := [.int .i64 c.p, .int .i64 c.h, .int .i64 c.k, .int .i64 c.m, .int .i64 c.s, .int .i64 c.lo, .int .i64 c.hi]
  len _ := rfl
  one x u hu := by
    simp only [List.mem_cons, List.not_mem_nil, or_false] at hu
    rcases hu with rfl | rfl | rfl | rfl | rfl | rfl | rfl <;> rfl
  pos := by decide
def rdE : Enc Rd where
  k := 2
  enc r := [.int .i64 r.s, .int .i64 r.v]
  len _ := rfl
  one x u hu := by
    simp only [List.mem_cons, List.not_mem_nil, or_false] at hu
    rcases hu with rfl | rfl <;> rfl
  pos := by decide
/-- A row of a trace: where its readings lie. -/
structure Tr where
  a : Option Addr
  n : Nat
  d : Nat
  l : List Rd
def trE : Enc Tr where
  k := 1
  enc x := [.slice x.a x.n x.d]
  len _ := rfl
  one x u hu := by
    simp only [List.mem_cons, List.not_mem_nil, or_false] at hu
    rcases hu with rfl; rfl
  pos := by decide
abbrev NRow := GRow ndE
abbrev CRow := GRow chE
abbrev DRow := GRow rdE
def Tr.In (w : World) (x : Tr) : Prop := DRow w x.a x.n x.l ∧ (x.a = none → x.n = 0 ∧ x.d = 0)
theorem Tr.In.after {w w' : World} {x : Tr} (h : x.In w) (a : After w w') : x.In w' := ⟨h.1.after a, h.2⟩
theorem Tr.In.keep {w w' : World} {x : Tr} {g : Nat} (h : x.In w) (hm : MapAt w g) (hb : But (One g) w w') : x.In w' := ⟨h.1.keep hm hb, h.2⟩
/-- A trace lies where a slice of n places leads. -/
def TRow (w : World) (a : Option Addr) (n : Nat) (xs : List Tr) : Prop := GRow trE w a n xs ∧ ∀ x ∈ xs, x.In w
theorem TRow.after {w w' : World} {a n xs} (h : TRow w a n xs) (ha : After w w') : TRow w' a n xs := ⟨h.1.after ha, fun x hx => (h.2 x hx).after ha⟩
theorem TRow.keep {w w' : World} {g : Nat} {a n xs} (h : TRow w a n xs) (hm : MapAt w g) (hb : But (One g) w w') : TRow w' a n xs := ⟨h.1.keep hm hb, fun x hx => (h.2 x hx).keep hm hb⟩
theorem TRow.take {w : World} {a n xs} (h : TRow w a n xs) {k : Nat} (hk : k ≤ n) : TRow w a k (xs.take k) := ⟨h.1.take hk, fun x hx => h.2 x (List.mem_of_mem_take hx)⟩
/-- The readings. -/
def rdsOf (xs : List Tr) : List (List Rd) := xs.map Tr.l
theorem nrow_at {w : World} {a n xs} (h : NRow w a n xs) {i : Nat} (hi : i < n) : ∃ b off x, a = some ⟨b, off, none⟩ ∧ b < w.heap.size ∧ xs[i]? = some x ∧ w.cell? ⟨b, off + i * 4, none⟩ = some (.int .i64 x.op) ∧ w.cell? ⟨b, off + i * 4 + 1, none⟩ = some (.int .i64 x.a) ∧ w.cell? ⟨b, off + i * 4 + 2, none⟩ = some (.int .i64 x.b) ∧ w.cell? ⟨b, off + i * 4 + 3, none⟩ = some (.int .i64 x.n) := by
  obtain ⟨b, off, x, e, hb, hx, h1⟩ := h.2 i hi
  exact ⟨b, off, x, e, hb, hx, h1 0 _ rfl, h1 1 _ rfl, h1 2 _ rfl, h1 3 _ rfl⟩
theorem crow_at {w : World} {a n xs} (h : CRow w a n xs) {i : Nat} (hi : i < n) : ∃ b off x, a = some ⟨b, off, none⟩ ∧ b < w.heap.size ∧ xs[i]? = some x ∧ w.cell? ⟨b, off + i * 7, none⟩ = some (.int .i64 x.p) ∧ w.cell? ⟨b, off + i * 7 + 1, none⟩ = some (.int .i64 x.h) ∧ w.cell? ⟨b, off + i * 7 + 2, none⟩ = some (.int .i64 x.k) ∧ w.cell? ⟨b, off + i * 7 + 3, none⟩ = some (.int .i64 x.m) ∧ w.cell? ⟨b, off + i * 7 + 4, none⟩ = some (.int .i64 x.s) ∧ w.cell? ⟨b, off + i * 7 + 5, none⟩ = some (.int .i64 x.lo) ∧ w.cell? ⟨b, off + i * 7 + 6, none⟩ = some (.int .i64 x.hi) := by
  obtain ⟨b, off, x, e, hb, hx, h1⟩ := h.2 i hi
  exact ⟨b, off, x, e, hb, hx, h1 0 _ rfl, h1 1 _ rfl, h1 2 _ rfl, h1 3 _ rfl, h1 4 _ rfl, h1 5 _ rfl, h1 6 _ rfl⟩
theorem drow_at {w : World} {a n xs} (h : DRow w a n xs) {i : Nat} (hi : i < n) : ∃ b off x, a = some ⟨b, off, none⟩ ∧ b < w.heap.size ∧ xs[i]? = some x ∧ w.cell? ⟨b, off + i * 2, none⟩ = some (.int .i64 x.s) ∧ w.cell? ⟨b, off + i * 2 + 1, none⟩ = some (.int .i64 x.v) := by
  obtain ⟨b, off, x, e, hb, hx, h1⟩ := h.2 i hi
  exact ⟨b, off, x, e, hb, hx, h1 0 _ rfl, h1 1 _ rfl⟩
theorem trow_at {w : World} {a n xs} (h : TRow w a n xs) {i : Nat} (hi : i < n) : ∃ b off x, a = some ⟨b, off, none⟩ ∧ b < w.heap.size ∧ xs[i]? = some x ∧ w.cell? ⟨b, off + i, none⟩ = some (.slice x.a x.n x.d) ∧ x.In w := by
  obtain ⟨b, off, x, e, hb, hx, h1⟩ := h.1.2 i hi
  refine ⟨b, off, x, e, hb, hx, ?_, h.2 x (List.mem_of_getElem? hx)⟩
  have := h1 0 _ rfl
  rw [Nat.add_zero, show trE.k = 1 from rfl, Nat.mul_one] at this
  exact this
end Go.Proofs.Ytalffdiohjcajaa
