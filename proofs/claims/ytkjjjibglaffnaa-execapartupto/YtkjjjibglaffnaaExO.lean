/-
  New: an exec that is being made, in memory.
-/
import Derived.Test.YtkjjjibglaffnaaExN
import Derived.Laws.AppendOwnNone
namespace Go.Proofs.Ytkjjjibglaffnaa
open Go.RowKit
set_option maxRecDepth 8000
/-- Things that are appended to things of one's own, whatever the frame. -/
theorem wp_appE {α : Type} {E : Enc α} {o : Oper} {a : Act} {w : World} {K : Act → World → Prop} {Q : Exit → Act → World → Prop} {T t : TypeId} {z : Value} {bts : Nat} (hT : Try.prog.underlying T = some (.slice t)) (hinfo : (Try.prog.info? t).map (fun i => (i.zero, i.size, i.bytes)) = some (some z, E.k, bts)) (hz : z.cells.size = E.k) (s x : Operand) (ho : o.op = .call { callee := .builtin .append, args := #[s, x], argTypes := #[T, T] }) {B : Nat} {v : Value} {xs : List α} (hs : a.eval s = v) (hown : ORow E t w B v xs)
    {ad : Addr} {m c : Nat} {ys : List α} (hx : a.eval x = .slice (some ad) m c) (hr : GRow E w (some ad) m ys) (hb : xs.length + m ≤ maxLen) (hb2 : (xs.length + m) * bts ≤ 140737488355328) (hbase : B ≤ w.heap.size)
    (h : ∀ v' w', ORow E t w' B v' (xs ++ ys) → But (fun k => v.ownBlock = some k) w w' → K (a.put o.dst v') w') : Oper.wp Try.prog o a w K Q := by
  obtain ⟨i0, hi, hz'⟩ := Option.map_eq_some_iff.1 hinfo
  simp only [Prod.mk.injEq] at hz'
  obtain ⟨hz0, hz1, hz2⟩ := hz'
  have hl1 : (E.flat ys).length = m * E.k := by rw [E.flat_length, hr.1]
  refine wp_append_own w s x T ho B t i0 z E.k bts hT hi hz0 hz1 hz2 hz E.pos v xs.length (E.flat xs) hs hown ad m c (E.flat ys) hx hl1 hr.news (E.flat_one _) hb hb2 hbase ?_
  intro v' w' h1 h2 _
  rw [← E.flat_append] at h1
  have e : xs.length + m = (xs ++ ys).length := by rw [List.length_append, hr.1]
  rw [e] at h1
  exact h v' w' h1 (But.grown But.rfl h2 (fun k hk _ => hk))
theorem own_apart {α β : Type} {E : Enc α} {E' : Enc β} {t t' : TypeId} {w : World} {B B' : Nat} {v v' : Value} {xs : List α} {ys : List β} (h1 : ORow E t w B v xs) (h2 : ORow E' t' w B' v' ys) (ht : t' ≠ t) {k : Nat} (hk : v'.ownBlock = some k) : v.ownBlock ≠ some k := by
  rcases h2.2 with ⟨rfl, _⟩ | ⟨g, cap, cur, rfl, _, hg, _⟩
  · cases hk
  · have e : g = k := by simpa [Value.ownBlock] using hk
    subst e
    exact own_farT h1 ht hg
/-- An exec that is being made. -/
structure Nw (w0 w : World) (p : Nat) (vF vS lv : Value) (fs : List Fw) (st : List Int) (L : List Lk) : Prop where
  at0 : w.heap[p]? = some (.cells (exC vF vS lv 0 false) 73 (0, 0))
  oF : ORow fwE 23 w w0.heap.size vF fs
  oS : ORow inE 3 w w0.heap.size vS st
  oL : ORow lkE 83 w w0.heap.size lv L
  of : ∀ f ∈ fs, ORow inE 3 w w0.heap.size (.slice f.a f.l.length f.c) f.l
  pb : w0.heap.size ≤ p
  aft : After w0 w
theorem Nw.after {w0 w w' : World} {p : Nat} {vF vS lv : Value} {fs : List Fw} {st : List Int} {L : List Lk} (h : Nw w0 w p vF vS lv fs st L) (a : After w w') : Nw w0 w' p vF vS lv fs st L :=
  ⟨(a.block p (blk_lt h.at0) (fun t => t)).trans h.at0, own_after h.oF a, own_after h.oS a, own_after h.oL a, fun f hf => own_after (h.of f hf) a, h.pb, h.aft.trans a⟩
/-- Behind an append to the frames, ahead of its store. -/
def AirF (w0 : World) (p : Nat) (vF vS lv : Value) (fs : List Fw) (st : List Int) (L : List Lk) (r : List Int) (v : Value) (w : World) : Prop :=
  ∃ w2 f, f.l = r ∧ Nw w0 w2 p vF vS lv fs st L ∧ ORow inE 3 w2 w0.heap.size (.slice f.a f.l.length f.c) f.l ∧ ORow fwE 23 w w0.heap.size v (fs ++ [f]) ∧ But (fun k => vF.ownBlock = some k) w2 w
theorem AirF.at1 {w0 w : World} {p : Nat} {vF vS lv : Value} {fs : List Fw} {st : List Int} {L : List Lk} {r : List Int} {v : Value} (h : AirF w0 p vF vS lv fs st L r v w) : w.heap[p]? = some (.cells (exC vF vS lv 0 false) 73 (0, 0)) := by
  obtain ⟨w2, f, _, h1, _, _, b⟩ := h
  exact (b.block p (blk_lt h1.at0) (own_farT h1.oF (by decide) h1.at0)).trans h1.at0
theorem AirF.land {w0 w : World} {p : Nat} {vF vS lv : Value} {fs : List Fw} {st : List Int} {L : List Lk} {r : List Int} {v : Value} (h : AirF w0 p vF vS lv fs st L r v w) : ∃ f, f.l = r ∧ Nw w0 (w.setCell ⟨p, 0, none⟩ v) p v vS lv (fs ++ [f]) st L := by
  have ha := h.at1
  obtain ⟨w2, f, hf, h1, h2, h3, b⟩ := h
  have bs := but_one w p 0 v
  have n1 : ∀ k, w2.heap[p]? = some (.cells (exC vF vS lv 0 false) 73 (0, 0)) → k = p → True := fun _ _ _ => trivial
  have oS : ORow inE 3 w w0.heap.size vS st := own_but h1.oS b (fun k hk e => own_apart h1.oF h1.oS (by decide) hk e)
  have oL : ORow lkE 83 w w0.heap.size lv L := own_but h1.oL b (fun k hk e => own_apart h1.oF h1.oL (by decide) hk e)
  have of : ∀ f' ∈ fs ++ [f], ORow inE 3 w w0.heap.size (.slice f'.a f'.l.length f'.c) f'.l := fun f' hf' => by
    rcases List.mem_append.1 hf' with h' | h'
    · exact own_but (h1.of f' h') b (fun k hk e => own_apart h1.oF (h1.of f' h') (by decide) hk e)
    · rw [List.mem_singleton] at h'
      subst h'
      exact own_but h2 b (fun k hk e => own_apart h1.oF h2 (by decide) hk e)
  refine ⟨f, hf, blk_put ha 0 v, own_but h3 bs (fun k hk e => ?_), own_but oS bs (fun k hk e => ?_), own_but oL bs (fun k hk e => ?_), fun f' hf' => own_but (of f' hf') bs (fun k hk e => ?_), h1.pb, (h1.aft.then b (fun k hk e => ?_)).then bs (fun k hk e => ?_)⟩
  · exact own_farT h3 (by decide) ha (by rw [← show k = p from e]; exact hk)
  · exact own_farT oS (by decide) ha (by rw [← show k = p from e]; exact hk)
  · exact own_farT oL (by decide) ha (by rw [← show k = p from e]; exact hk)
  · exact own_farT (of f' hf') (by decide) ha (by rw [← show k = p from e]; exact hk)
  · have := (h1.oF.lt k e).1; omega
  · have := h1.pb; have e : k = p := e; omega
/-- Behind an append to the links, ahead of its store. -/
def AirL (w0 : World) (p : Nat) (vF vS lv : Value) (fs : List Fw) (st : List Int) (L : List Lk) (q : Lk) (v : Value) (w : World) : Prop :=
  ∃ w2, Nw w0 w2 p vF vS lv fs st L ∧ ORow lkE 83 w w0.heap.size v (L ++ [q]) ∧ But (fun k => lv.ownBlock = some k) w2 w
theorem AirL.at1 {w0 w : World} {p : Nat} {vF vS lv : Value} {fs : List Fw} {st : List Int} {L : List Lk} {q : Lk} {v : Value} (h : AirL w0 p vF vS lv fs st L q v w) : w.heap[p]? = some (.cells (exC vF vS lv 0 false) 73 (0, 0)) := by
  obtain ⟨w2, h1, _, b⟩ := h
  exact (b.block p (blk_lt h1.at0) (own_farT h1.oL (by decide) h1.at0)).trans h1.at0
theorem AirL.land {w0 w : World} {p : Nat} {vF vS lv : Value} {fs : List Fw} {st : List Int} {L : List Lk} {q : Lk} {v : Value} (h : AirL w0 p vF vS lv fs st L q v w) : Nw w0 (w.setCell ⟨p, 2, none⟩ v) p vF vS v fs st (L ++ [q]) := by
  have ha := h.at1
  obtain ⟨w2, h1, h3, b⟩ := h
  have bs := but_one w p 2 v
  have oF : ORow fwE 23 w w0.heap.size vF fs := own_but h1.oF b (fun k hk e => own_apart h1.oL h1.oF (by decide) hk e)
  have oS : ORow inE 3 w w0.heap.size vS st := own_but h1.oS b (fun k hk e => own_apart h1.oL h1.oS (by decide) hk e)
  have of : ∀ f' ∈ fs, ORow inE 3 w w0.heap.size (.slice f'.a f'.l.length f'.c) f'.l := fun f' hf' => own_but (h1.of f' hf') b (fun k hk e => own_apart h1.oL (h1.of f' hf') (by decide) hk e)
  refine ⟨blk_put ha 2 v, own_but oF bs (fun k hk e => ?_), own_but oS bs (fun k hk e => ?_), own_but h3 bs (fun k hk e => ?_), fun f' hf' => own_but (of f' hf') bs (fun k hk e => ?_), h1.pb, (h1.aft.then b (fun k hk e => ?_)).then bs (fun k hk e => ?_)⟩
  · exact own_farT oF (by decide) ha (by rw [← show k = p from e]; exact hk)
  · exact own_farT oS (by decide) ha (by rw [← show k = p from e]; exact hk)
  · exact own_farT h3 (by decide) ha (by rw [← show k = p from e]; exact hk)
  · exact own_farT (of f' hf') (by decide) ha (by rw [← show k = p from e]; exact hk)
  · have := (h1.oL.lt k e).1; omega
  · have := h1.pb; have e : k = p := e; omega
theorem Try.infoFw : (Try.prog.info? 23).map (fun i => (i.zero, i.size, i.bytes)) = some (some (.slice none 0 0), 1, 24) := by kernel_rfl
theorem Try.infoLk : (Try.prog.info? 83).map (fun i => (i.zero, i.size, i.bytes)) = some (some (.agg #[.int .i64 0, .int .i64 0, .int .i64 0, .bool false]), 4, 32) := by kernel_rfl
theorem loadFr {w : World} {b off : Nat} {a : Option Addr} {n c : Nat} (h0 : w.cell? ⟨b, off, none⟩ = some (.slice a n c)) : (Instr.loadAt 22 (.pointer (some ⟨b, off, none⟩))).run Try.prog w = .ok (.slice a n c) w := by
  simp [go_sem, h0]
theorem loadLk {w : World} {b off : Nat} {a : Option Addr} {n c : Nat} (h0 : w.cell? ⟨b, off, none⟩ = some (.slice a n c)) : (Instr.loadAt 71 (.pointer (some ⟨b, off, none⟩))).run Try.prog w = .ok (.slice a n c) w := by
  simp [go_sem, h0]
theorem storeFr {w : World} {b off : Nat} {a : Option Addr} {n c : Nat} {v : Value} (h0 : w.cell? ⟨b, off, none⟩ = some v) (h1 : w.frozen? ⟨b, off, none⟩ = false) : (Instr.storeAt 22 (.pointer (some ⟨b, off, none⟩)) (.slice a n c)).run Try.prog w = .ok () (w.setCell ⟨b, off, none⟩ (.slice a n c)) := by
  simp [go_sem, h0, h1]
theorem storeLk {w : World} {b off : Nat} {a : Option Addr} {n c : Nat} {v : Value} (h0 : w.cell? ⟨b, off, none⟩ = some v) (h1 : w.frozen? ⟨b, off, none⟩ = false) : (Instr.storeAt 71 (.pointer (some ⟨b, off, none⟩)) (.slice a n c)).run Try.prog w = .ok () (w.setCell ⟨b, off, none⟩ (.slice a n c)) := by
  simp [go_sem, h0, h1]
theorem fieldEx0 (w : World) (b : Nat) : (Instr.fieldAt 73 (.pointer (some ⟨b, 0, none⟩)) 0).run Try.prog w = .ok (.pointer (some ⟨b, 0, none⟩)) w := by
  simp [go_sem]
theorem fieldEx2 (w : World) (b : Nat) : (Instr.fieldAt 73 (.pointer (some ⟨b, 0, none⟩)) 2).run Try.prog w = .ok (.pointer (some ⟨b, 2, none⟩)) w := by
  simp [go_sem]
theorem run_bsFw (a : Option Addr) (n c : Nat) (w : World) : (Instr.buildSlice 22 1 #[(0, .slice a n c)]).run Try.prog w = .ok (.slice (some ⟨w.heap.size, 0, none⟩) 1 1) (w.alloc (.cells #[.slice a n c] 23)) := by
  simp [go_sem]
theorem run_bLk (x y : Int) (w : World) : (Instr.build 83 #[(0, .int .i64 x), (1, .int .i64 y)]).run Try.prog w = .ok (.agg #[.int .i64 x, .int .i64 y, .int .i64 0, .bool false]) w := by
  simp [go_sem]
theorem run_bsLk (x y : Int) (w : World) : (Instr.buildSlice 71 1 #[(0, .agg #[.int .i64 x, .int .i64 y, .int .i64 0, .bool false])]).run Try.prog w = .ok (.slice (some ⟨w.heap.size, 0, none⟩) 1 1) (w.alloc (.cells #[.int .i64 x, .int .i64 y, .int .i64 0, .bool false] 83)) := by
  simp [go_sem]
theorem indexP0 (w : World) (b : Nat) : (Instr.indexAt 65 (.pointer (some ⟨b, 0, none⟩)) (.int .i64 0)).run Try.prog w = .ok (.pointer (some ⟨b, 0, none⟩)) w := by
  simp [go_sem]
theorem indexP1 (w : World) (b : Nat) : (Instr.indexAt 65 (.pointer (some ⟨b, 0, none⟩)) (.int .i64 1)).run Try.prog w = .ok (.pointer (some ⟨b, 1, none⟩)) w := by
  simp [go_sem]
theorem loadIn {w : World} {b off : Nat} {n : Int} (h0 : w.cell? ⟨b, off, none⟩ = some (.int .i64 n)) : (Instr.loadAt 3 (.pointer (some ⟨b, off, none⟩))).run Try.prog w = .ok (.int .i64 n) w := by
  simp [go_sem, h0]
end Go.Proofs.Ytkjjjibglaffnaa
