/-
  Blocks of any size, read and written; rows of ints that are handed in, and of one's own; what is appended to them.
-/
import Derived.Test.YtalffdiohjcajaaBase
import Derived.ArgAppend
namespace Go.Proofs.Ytalffdiohjcajaa
open Go.RowKit
set_option maxRecDepth 8000
abbrev Ptr (g : Nat) : Value := .pointer (some ⟨g, 0, none⟩)
theorem blk_cell {w : World} {p : Nat} {cs : Array Value} {T : TypeId} (h : w.heap[p]? = some (.cells cs T (0, 0))) {i : Nat} {v : Value} (hi : cs[i]? = some v) : w.cell? ⟨p, i, none⟩ = some v := by
  simp [World.cell?, h, hi]
theorem blk_soft {w : World} {p : Nat} {cs : Array Value} {T : TypeId} (h : w.heap[p]? = some (.cells cs T (0, 0))) (i : Nat) : w.frozen? ⟨p, i, none⟩ = false := by
  simp [World.frozen?, h]
theorem blk_put {w : World} {p : Nat} {cs : Array Value} {T : TypeId} (h : w.heap[p]? = some (.cells cs T (0, 0))) (i : Nat) (v : Value) : (w.setCell ⟨p, i, none⟩ v).heap[p]? = some (.cells (cs.setIfInBounds i v) T (0, 0)) := by
  simp [World.setCell, Array.getElem?_modify, h]
theorem but_one (w : World) (g i : Nat) (v : Value) : But (One g) w (w.setCell ⟨g, i, none⟩ v) := But.set (S := One g) But.rfl ⟨g, i, none⟩ (fun _ => Eq.refl _) v
theorem set_at {cs : Array Value} {i : Nat} (h : i < cs.size) (v : Value) : (cs.setIfInBounds i v)[i]? = some v := by simp [h]
theorem set_off {cs : Array Value} {i j : Nat} (h : i ≠ j) (v : Value) : (cs.setIfInBounds i v)[j]? = cs[j]? := by
  rw [Array.getElem?_setIfInBounds, if_neg h]
theorem blk_lt {w : World} {p : Nat} {o : Obj} (h : w.heap[p]? = some o) : p < w.heap.size := (Array.getElem?_eq_some_iff.1 h).1
/-- The blocks from one on. -/
def From (g : Nat) : Nat → Prop := fun k => g ≤ k
theorem Try.infoInt : (Try.prog.info? 3).map (fun i => (i.zero, i.size, i.bytes)) = some (some (.int .i64 0), 1, 8) := by kernel_rfl
/-- The ints zs lie where a slice of n places leads. -/
def IRow (w : World) (a : Option Addr) (n : Nat) (zs : List Int) : Prop :=
  zs.length = n ∧ ∀ i, i < n → ∃ b off, a = some ⟨b, off, none⟩ ∧ b < w.heap.size ∧ w.cell? ⟨b, off + i, none⟩ = some (.int .i64 (zs.getD i 0))
theorem IRow.but {S : Nat → Prop} {w w' : World} {a n zs} (h : IRow w a n zs) (ha : But S w w') (hn : ∀ x, a = some x → ¬ S x.block) : IRow w' a n zs :=
  ⟨h.1, fun i hi => by
    obtain ⟨b, off, e, hb, hc⟩ := h.2 i hi
    exact ⟨b, off, e, Nat.lt_of_lt_of_le hb ha.size, by rw [ha.cell hb (hn _ e)]; exact hc⟩⟩
theorem IRow.old {S : Nat → Prop} {w w' : World} {a n zs} (h : IRow w a n zs) (ha : But S w w') (hn : ∀ k, k < w.heap.size → ¬ S k) : IRow w' a n zs :=
  ⟨h.1, fun i hi => by
    obtain ⟨b, off, e, hb, hc⟩ := h.2 i hi
    exact ⟨b, off, e, Nat.lt_of_lt_of_le hb ha.size, by rw [ha.cell hb (hn _ hb)]; exact hc⟩⟩
theorem IRow.after {w w' : World} {a n zs} (h : IRow w a n zs) (ha : After w w') : IRow w' a n zs := h.but ha (fun _ _ t => t)
theorem IRow.take {w : World} {a n zs} (h : IRow w a n zs) {k : Nat} (hk : k ≤ n) : IRow w a k (zs.take k) :=
  ⟨by rw [List.length_take, h.1]; omega, fun i hi => by
    obtain ⟨b, off, e, hb, hc⟩ := h.2 i (by omega)
    exact ⟨b, off, e, hb, by rw [hc, getD_take zs hi]⟩⟩
theorem IRow.drop {w : World} {b off n zs} (h : IRow w (some ⟨b, off, none⟩) n zs) {k : Nat} (hk : k ≤ n) : IRow w (some ⟨b, off + k, none⟩) (n - k) (zs.drop k) :=
  ⟨by rw [List.length_drop, h.1], fun i hi => by
    obtain ⟨b', off', e, hb, hc⟩ := h.2 (k + i) (by omega)
    cases e
    exact ⟨b, off + k, rfl, hb, by rw [getD_drop, ← hc, Nat.add_assoc]⟩⟩
theorem IRow.nil (w : World) (a : Option Addr) : IRow w a 0 [] := ⟨rfl, fun i hi => absurd hi (by omega)⟩
def i64s (zs : List Int) : List Value := zs.map (Value.int .i64)
theorem i64s_append (zs ys : List Int) : i64s zs ++ i64s ys = i64s (zs ++ ys) := by unfold i64s; rw [List.map_append]
theorem i64s_length (zs : List Int) : (i64s zs).length = zs.length := by simp [i64s]
theorem i64s_one (zs : List Int) : ∀ u ∈ i64s zs, u.oneCell' = true := by
  intro u hu
  obtain ⟨z, _, rfl⟩ := List.mem_map.1 hu
  rfl
theorem irow_news {w : World} {x : Addr} {n : Nat} {zs : List Int} (h : IRow w (some x) n zs) : ∀ j u, (i64s zs)[j]? = some u → w.cell? (x.add j) = some u := by
  intro j u hj
  have hjl : j < zs.length := by
    rcases Nat.lt_or_ge j zs.length with h' | h'
    · exact h'
    · simp [i64s, h'] at hj
  obtain ⟨b, off, e, _, hc⟩ := h.2 j (by rw [← h.1]; exact hjl)
  cases e
  have hu : u = .int .i64 (zs.getD j 0) := by simp [i64s, hjl] at hj; simp [hjl, ← hj]
  rw [hu]
  have e : (⟨b, off, none⟩ : Addr).add j = ⟨b, off + j, none⟩ := by simp [Addr.add]
  rw [e]; exact hc
/-- Ints in a row of one's own, from block B on. -/
abbrev OInts (w : World) (B : Nat) (v : Value) (zs : List Int) : Prop := w.ownsRow B 3 1 v zs.length (i64s zs)
/-- What is owned is a row. -/
theorem own_irow {w : World} {B : Nat} {v : Value} {zs : List Int} (h : OInts w B v zs) : ∃ a c, v = .slice a zs.length c ∧ IRow w a zs.length zs ∧ (a = none → zs.length = 0 ∧ c = 0) ∧ zs.length ≤ c ∧ (∀ x, a = some x → v.ownBlock = some x.block ∧ x = ⟨x.block, 0, none⟩ ∧ B ≤ x.block) := by
  rcases h.2 with ⟨rfl, h0⟩ | ⟨g, cap, cur, rfl, hB, _, hnc, _⟩
  · rw [h0]
    exact ⟨none, 0, rfl, ⟨h0, fun i hi => absurd hi (by omega)⟩, fun _ => ⟨rfl, rfl⟩, by omega, fun x hx => by cases hx⟩
  · refine ⟨_, _, rfl, ⟨rfl, fun i hi => ⟨g, 0, rfl, (h.lt g rfl).2, ?_⟩⟩, (fun h => by cases h), hnc, fun x hx => by cases hx; exact ⟨rfl, rfl, hB⟩⟩
    have := h.cellAt i (by omega)
    rw [Nat.zero_add, this]
    simp [i64s, hi]
theorem own_lt {w : World} {B : Nat} {v : Value} {zs : List Int} (h : OInts w B v zs) {k : Nat} (hk : v.ownBlock = some k) : B ≤ k ∧ k < w.heap.size := h.lt k hk
theorem own_nil (w : World) (B : Nat) : OInts w B (.slice none 0 0) [] := World.ownsRow_nil w B 3 1
/-- Ints that are appended to ints of one's own. -/
theorem app_ints {w : World} {ops : Array Oper} {rest : List Oper} {o : Oper} {act : Act} {Q : Exit → Act → World → Prop} (hgd : o.guard = none) (s x : Operand)
    (ho : o.op = .call { callee := .builtin .append, args := #[s, x], argTypes := #[32, 32] }) (B : Nat) (v : Value) (zs : List Int) (hs : act.eval s = v) (hown : OInts w B v zs)
    (a : Option Addr) (m c : Nat) (ys : List Int) (hx : act.eval x = .slice a m c) (hr : IRow w a m ys) (ha : a = none → m = 0 ∧ c = 0) (hb : zs.length + m ≤ 17592186044416) (hbase : B ≤ w.heap.size)
    (h : ∀ v' w', OInts w' B v' (zs ++ ys) → But (fun k => v.ownBlock = some k) w w' → wpList Try.prog ops Q rest (act.put o.dst v') w') : wpList Try.prog ops Q (o :: rest) act w := by
  obtain ⟨i0, hi, hz⟩ := Option.map_eq_some_iff.1 Try.infoInt
  simp only [Prod.mk.injEq] at hz
  obtain ⟨hz0, hz1, hz2⟩ := hz
  cases a with
  | none =>
    obtain ⟨rfl, rfl⟩ := ha rfl
    have hz : ys = [] := List.length_eq_zero_iff.1 hr.1
    subst hz
    refine wpList_append_own_none hgd s x 32 ho B 3 i0 1 Try.underlying32 hi v zs.length (i64s zs) hs hown hx ?_
    refine h v w ?_ But.rfl
    rw [List.append_nil]; exact hown
  | some ad =>
    have hl1 : (i64s ys).length = m * 1 := by simp [i64s, hr.1]
    refine wpList_append_own w hgd s x 32 ho B 3 i0 (.int .i64 0) 1 8 Try.underlying32 hi hz0 hz1 hz2 rfl (by decide) v zs.length (i64s zs) hs hown ad m c (i64s ys) hx hl1 (irow_news hr) (i64s_one _) (by unfold maxLen; omega) (by omega) hbase ?_
    intro v' w' h1 h2 _
    rw [i64s_append] at h1
    have e : zs.length + m = (zs ++ ys).length := by rw [List.length_append, hr.1]
    rw [e] at h1
    exact h v' w' h1 (But.grown But.rfl h2 (fun k hk _ => hk))
/-- A literal of ints, laid in a new block. -/
theorem lit_irow {w : World} {g c : Nat} {cs : Array Value} {zs : List Int} (h : w.heap[g]? = some (.cells cs 3 (0, 0))) (hz : cs.toList = i64s zs) (hc : c = zs.length) : IRow w (some ⟨g, 0, none⟩) c zs := by
  subst hc
  refine ⟨rfl, fun i hi => ⟨g, 0, rfl, blk_lt h, ?_⟩⟩
  rw [Nat.zero_add]
  refine blk_cell h ?_
  rw [← Array.getElem?_toList, hz]
  simp [i64s, hi]
end Go.Proofs.Ytalffdiohjcajaa
