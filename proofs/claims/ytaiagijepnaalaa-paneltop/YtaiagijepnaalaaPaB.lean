/-
  Package panel: all that is shown, as it lies in cells; views; what is seen.
-/
import Derived.Test.YtaiagijepnaalaaPaA
namespace Go.Proofs.Ytaiagijepnaalaa
open Go.RowKit
set_option maxRecDepth 8000
/-- Signals, sights, states, bools in cells. -/
def sgE : Enc Sg where
  k := 3
  enc x := [.bool x.sh, .bool x.so, .int .i64 x.pr]
  len _ := rfl
  one x u hu := by
    simp only [List.mem_cons, List.not_mem_nil, or_false] at hu
    rcases hu with rfl | rfl | rfl <;> rfl
  pos := by decide
def stE : Enc St where
  k := 2
  enc x := [.bool x.sh, .int .i64 x.pr]
  len _ := rfl
  one x u hu := by
    simp only [List.mem_cons, List.not_mem_nil, or_false] at hu
    rcases hu with rfl | rfl <;> rfl
  pos := by decide
def asE : Enc As where
  k := 4
  enc x := [.int .i64 x.ph, .int .i64 x.pr, .int .i64 x.si, .int .i64 x.pa]
  len _ := rfl
  one x u hu := by
    simp only [List.mem_cons, List.not_mem_nil, or_false] at hu
    rcases hu with rfl | rfl | rfl | rfl <;> rfl
  pos := by decide
def blE : Enc Bool where
  k := 1
  enc x := [.bool x]
  len _ := rfl
  one x u hu := by
    simp only [List.mem_cons, List.not_mem_nil, or_false] at hu
    rcases hu with rfl; rfl
  pos := by decide
/-- What is written over in a row of things. -/
theorem Enc.flat_set {α : Type} (E : Enc α) : ∀ (xs : List α) (i : Nat) (x : α), i < xs.length → ∀ j, (E.flat (xs.set i x))[j]? = if i * E.k ≤ j ∧ j < i * E.k + E.k then (E.enc x)[j - i * E.k]? else (E.flat xs)[j]?
  | [], _, _, h, _ => by simp at h
  | y :: r, 0, x, _, j => by
    rw [List.set_cons_zero, E.flat_cons, E.flat_cons, Nat.zero_mul, Nat.zero_add, Nat.sub_zero]
    by_cases hj : j < E.k
    · rw [if_pos ⟨Nat.zero_le _, hj⟩, List.getElem?_append_left (by rw [E.len]; exact hj)]
    · rw [if_neg (by omega), List.getElem?_append_right (by rw [E.len]; omega), List.getElem?_append_right (by rw [E.len]; omega), E.len, E.len]
  | y :: r, i + 1, x, h, j => by
    rw [List.set_cons_succ, E.flat_cons, E.flat_cons, Nat.add_mul, Nat.one_mul]
    by_cases hj : j < E.k
    · rw [if_neg (by omega), List.getElem?_append_left (by rw [E.len]; exact hj), List.getElem?_append_left (by rw [E.len]; exact hj)]
    · rw [List.getElem?_append_right (by rw [E.len]; omega), List.getElem?_append_right (by rw [E.len]; omega), E.len, Enc.flat_set E r i x (by simpa using h)]
      by_cases hc : i * E.k + E.k ≤ j ∧ j < i * E.k + E.k + E.k
      · rw [if_pos (by omega), if_pos hc, Nat.sub_sub, Nat.add_comm E.k]
      · rw [if_neg (by omega), if_neg hc]
def Vec.cs (v : Vec) : List Value := sgE.flat v.sg ++ [.int .i64 v.top, .int .i64 v.tone, .bool v.fl] ++ blE.flat v.lk
abbrev Vec.v (v : Vec) : Value := .agg v.cs.toArray
theorem Vec.Ok.len {v : Vec} (h : v.Ok) : v.cs.length = 85 := by
  unfold Vec.cs
  rw [List.length_append, List.length_append, sgE.flat_length, blE.flat_length, h.1, h.2]
  rfl
theorem Vec.cs_sg {v : Vec} (h : v.Ok) {i : Nat} {x : Sg} (hx : v.sg[i]? = some x) {j : Nat} (hj : j < 3) : v.cs[i * 3 + j]? = (sgE.enc x)[j]? := by
  have hi : i < 26 := by rw [← h.1]; exact (List.getElem?_eq_some_iff.1 hx).1
  unfold Vec.cs
  rw [List.getElem?_append_left (by rw [List.length_append, sgE.flat_length, h.1]; show i * 3 + j < 26 * 3 + 3; omega), List.getElem?_append_left (by rw [sgE.flat_length, h.1]; show i * 3 + j < 26 * 3; omega)]
  exact sgE.flat_at v.sg i x hx j hj
theorem Vec.cs_mid {v : Vec} (h : v.Ok) {j : Nat} (hj : j < 3) : v.cs[78 + j]? = [Value.int .i64 v.top, .int .i64 v.tone, .bool v.fl][j]? := by
  have e : (sgE.flat v.sg).length = 78 := by rw [sgE.flat_length, h.1]; rfl
  unfold Vec.cs
  rw [List.getElem?_append_left (by rw [List.length_append, e]; show 78 + j < 78 + 3; omega), List.getElem?_append_right (by omega), e]
  congr 1
  omega
theorem Vec.cs_lk {v : Vec} (h : v.Ok) {j : Nat} (hj : j < 4) : v.cs[81 + j]? = some (.bool (v.lk.getD j false)) := by
  have e : (sgE.flat v.sg).length = 78 := by rw [sgE.flat_length, h.1]; rfl
  unfold Vec.cs
  rw [List.getElem?_append_right (by rw [List.length_append, e]; show 78 + 3 ≤ 81 + j; omega)]
  have hl : j < v.lk.length := by rw [h.2]; exact hj
  have := blE.flat_at v.lk j v.lk[j] (by simp [hl]) 0 (by decide)
  rw [show blE.k = 1 from rfl, Nat.mul_one, Nat.add_zero] at this
  rw [show 81 + j - (sgE.flat v.sg ++ [Value.int .i64 v.top, .int .i64 v.tone, .bool v.fl]).length = j by rw [List.length_append, e]; show 81 + j - (78 + 3) = j; omega, this]
  simp [blE, hl]
theorem Vec.cs_one {v : Vec} : ∀ u ∈ v.cs, u.oneCell' = true := by
  intro u hu
  unfold Vec.cs at hu
  rcases List.mem_append.1 hu with hu | hu
  · rcases List.mem_append.1 hu with hu | hu
    · exact sgE.flat_one _ u hu
    · simp only [List.mem_cons, List.not_mem_nil, or_false] at hu
      rcases hu with rfl | rfl | rfl <;> rfl
  · exact blE.flat_one _ u hu
theorem Try.infoVec : (Try.prog.info? 29).map (·.size) = some 85 := by kernel_rfl
theorem Try.infoSgs : (Try.prog.info? 26).map (·.size) = some 78 := by kernel_rfl
theorem Try.infoView : (Try.prog.info? 50).map (·.size) = some 52 := by kernel_rfl
theorem Try.infoSts : (Try.prog.info? 48).map (·.size) = some 52 := by kernel_rfl
/-- A vector lies in a block. -/
def VecAt (w : World) (g : Nat) (v : Vec) : Prop := w.heap[g]? = some (.cells v.cs.toArray 29 (0, 0))
/-- A view lies in a block. -/
def ViewAt (w : World) (g : Nat) (l : List St) : Prop := w.heap[g]? = some (.cells (stE.flat l).toArray 50 (0, 0))
abbrev viewV (l : List St) : Value := .agg (stE.flat l).toArray
abbrev sgsV (l : List Sg) : Value := .agg (sgE.flat l).toArray
theorem List.getD_some {α : Type} {l : List α} {i : Nat} {x d : α} (h : l[i]? = some x) : l.getD i d = x := by rw [List.getD_eq_getElem?_getD, h]; rfl
theorem get_some {α : Type} (l : List α) {i : Nat} (d : α) (h : i < l.length) : l[i]? = some (l.getD i d) := by simp [h]
theorem Enc.flat_part {α : Type} (E : Enc α) (xs : List α) (i : Nat) (x : α) (h : xs[i]? = some x) : ((E.flat xs).drop (i * E.k)).take E.k = E.enc x := by
  apply List.ext_getElem?
  intro j
  rcases Nat.lt_or_ge j E.k with hj | hj
  · rw [List.getElem?_take_of_lt hj, List.getElem?_drop, E.flat_at xs i x h j hj]
  · rw [List.getElem?_eq_none (by rw [List.length_take]; omega), List.getElem?_eq_none (by rw [E.len]; exact hj)]
/-- One of the signals of a whole array of them. -/
theorem index_sg {l : List Sg} (hl : l.length = 26) {i : Nat} (hi : i < 26) (w : World) : (Instr.index 26 (sgsV l) (.int .i64 i)).run Try.prog w = .ok (l.getD i Sg.zero).v w := by
  have h := sgE.flat_part l i _ (get_some l Sg.zero (by omega))
  rw [show sgE.k = 3 from rfl] at h
  simp [Instr.index, go_sem, hi, h, -List.getD_eq_getElem?_getD]
  rfl
theorem index_st {l : List St} (hl : l.length = 26) {i : Nat} (hi : i < 26) (w : World) : (Instr.index 48 (viewV l) (.int .i64 i)).run Try.prog w = .ok (l.getD i St.zero).v w := by
  have h := stE.flat_part l i _ (get_some l St.zero (by omega))
  rw [show stE.k = 2 from rfl] at h
  simp [Instr.index, go_sem, hi, h, -List.getD_eq_getElem?_getD]
  rfl
section
variable {ops : Array Oper} {rest : List Oper} {o : Oper} {a : Act} {w : World} {Q : Exit → Act → World → Prop}
/-- An operation that yields a value. -/
theorem wl_val (hgd : o.guard = none) {s : Sem Value} {v : Value} {w' : World} (he : execOp a.eval o = (do pure (.value (← s)))) (hs : s.run Try.prog w = .ok v w') (h : wpList Try.prog ops Q rest (a.put o.dst v) w') : wpList Try.prog ops Q (o :: rest) a w := by
  refine wpList_plain hgd fun K hK => ?_
  unfold Oper.wp
  simp only [he, Sem.run_bind, hs, Result.andThen_ok, Sem.run_pure]
  exact hK _ _ h
/-- A block of whatever size is made. -/
theorem wl_alloc (T : TypeId) (Z : Array Value) (hz : ∀ V, (zeroValue T).run Try.prog V = .ok (.agg Z) V) (hgd : o.guard = none) (ho : o.op = .alloc T)
    (h : ∀ w', w'.heap[w.heap.size]? = some (.cells Z T (0, 0)) → After w w' → w'.heap.size = w.heap.size + 1 → wpList Try.prog ops Q rest (a.put o.dst (Ptr w.heap.size)) w') : wpList Try.prog ops Q (o :: rest) a w := by
  refine wl_val (s := Instr.alloc T true (.tuple #[])) (v := Ptr w.heap.size) (w' := w.alloc (.cells Z T)) hgd (by unfold execOp; rw [ho]) ?_ (h _ (heap_alloc_new w _) (After.rfl.alloc _) (by simp))
  simp [Instr.alloc, Sem.run_bind, hz, go_sem]
/-- A block of whatever size is laid with a value that was handed in. -/
theorem wl_box (T : TypeId) (x : Operand) (C : Array Value) (hgd : o.guard = none) (ho : o.op = .box T x) (hx : a.eval x = .agg C)
    (h : ∀ w', w'.heap[w.heap.size]? = some (.cells C T (0, 0)) → After w w' → w'.heap.size = w.heap.size + 1 → wpList Try.prog ops Q rest (a.put o.dst (Ptr w.heap.size)) w') : wpList Try.prog ops Q (o :: rest) a w := by
  refine wl_val (s := Instr.box T (.agg C)) (v := Ptr w.heap.size) (w' := w.alloc (.cells C T)) hgd (by unfold execOp; rw [ho]; simp only [hx]) ?_ (h _ (heap_alloc_new w _) (After.rfl.alloc _) (by simp))
  simp [Instr.box, go_sem]
/-- Cells in a row are read as a whole. -/
theorem wl_load (T : TypeId) (x : Operand) (d : TypeDesc) (hgd : o.guard = none) (ho : o.op = .load T x) {g off : Nat} (hx : a.eval x = .pointer (some ⟨g, off, none⟩)) (cs : List Value) (hr : w.rangeAt g off cs)
    (hu : Try.prog.underlying T = some d) (hd : d.isRow = true) (hi : (Try.prog.info? T).map (·.size) = some cs.length)
    (h : wpList Try.prog ops Q rest (a.put o.dst (.agg cs.toArray)) w) : wpList Try.prog ops Q (o :: rest) a w := wpList_load_mid hgd T x ho g off hx cs d hr hu hd hi h
/-- A whole block is written over. -/
theorem wl_store (T T' : TypeId) (x y : Operand) (hgd : o.guard = none) (ho : o.op = .store T x y) {g : Nat} (hx : a.eval x = Ptr g) (C D : Array Value) (hy : a.eval y = .agg C) (hb : w.heap[g]? = some (.cells D T' (0, 0)))
    (hi : (Try.prog.info? T).map (·.size) = some C.size) (hs : D.size = C.size) (h1 : C.all (·.oneCell') = true)
    (h : ∀ w', w'.heap[g]? = some (.cells C T' (0, 0)) → But (One g) w w' → w'.heap.size = w.heap.size → wpList Try.prog ops Q rest (a.put o.dst undef) w') : wpList Try.prog ops Q (o :: rest) a w := by
  refine wpList_store_row hgd T x y ho g C hx hy T' D hb hi hs h1 (h _ ?_ ?_ ?_)
  · simp [World.setRow, Array.getElem?_modify, hb]
  · refine ⟨rfl, rfl, rfl, by simp [World.setRow], fun k hk hn => ?_⟩
    have : ¬ g = k := fun e => hn e.symm
    simp [World.setRow, Array.getElem?_modify, this]
  · simp [World.setRow]
end
theorem Enc.flat_tail {α : Type} (E : Enc α) (xs : List α) (i : Nat) (x : α) (hi : i < xs.length) (tl : List Value) (j : Nat) :
    (E.flat (xs.set i x) ++ tl)[j]? = if i * E.k ≤ j ∧ j < i * E.k + E.k then (E.enc x)[j - i * E.k]? else (E.flat xs ++ tl)[j]? := by
  have e : (E.flat (xs.set i x)).length = (E.flat xs).length := by rw [E.flat_length, E.flat_length, List.length_set]
  have hm : i * E.k + E.k ≤ (E.flat xs).length := by
    rw [E.flat_length]
    have := Nat.mul_le_mul_right E.k (show i + 1 ≤ xs.length from hi)
    rw [Nat.add_mul, Nat.one_mul] at this
    exact this
  rcases Nat.lt_or_ge j (E.flat xs).length with hj | hj
  · rw [List.getElem?_append_left (by rw [e]; exact hj), List.getElem?_append_left hj, E.flat_set xs i x hi j]
  · rw [List.getElem?_append_right (by rw [e]; exact hj), List.getElem?_append_right hj, e, if_neg (by omega)]
theorem put_three {α : Type} (E : Enc α) (hk : E.k = 3) (xs : List α) (i : Nat) (x : α) (hi : i < xs.length) (tl : List Value) (a b c : Value) (hx : E.enc x = [a, b, c]) :
    (((E.flat xs ++ tl).toArray.setIfInBounds (i * 3) a).setIfInBounds (i * 3 + 1) b).setIfInBounds (i * 3 + 2) c = (E.flat (xs.set i x) ++ tl).toArray := by
  apply Array.ext_getElem?
  intro j
  have hl : i * 3 + 3 ≤ (E.flat xs ++ tl).length := by rw [List.length_append, E.flat_length, hk]; omega
  simp only [Array.getElem?_setIfInBounds, Array.size_setIfInBounds, List.size_toArray, List.getElem?_toArray]
  rw [E.flat_tail xs i x hi tl j, hk, hx]
  by_cases c2 : i * 3 + 2 = j
  · subst c2
    rw [if_pos rfl, if_pos (by omega), if_pos (by omega), show i * 3 + 2 - i * 3 = 2 by omega]; rfl
  · rw [if_neg c2]
    by_cases c1 : i * 3 + 1 = j
    · subst c1
      rw [if_pos rfl, if_pos (by omega), if_pos (by omega), show i * 3 + 1 - i * 3 = 1 by omega]; rfl
    · rw [if_neg c1]
      by_cases c0 : i * 3 = j
      · subst c0
        rw [if_pos rfl, if_pos (by omega), if_pos (by omega), Nat.sub_self]; rfl
      · rw [if_neg c0, if_neg (by omega)]
theorem put_two {α : Type} (E : Enc α) (hk : E.k = 2) (xs : List α) (i : Nat) (x : α) (hi : i < xs.length) (tl : List Value) (a b : Value) (hx : E.enc x = [a, b]) :
    ((E.flat xs ++ tl).toArray.setIfInBounds (i * 2) a).setIfInBounds (i * 2 + 1) b = (E.flat (xs.set i x) ++ tl).toArray := by
  apply Array.ext_getElem?
  intro j
  have hl : i * 2 + 2 ≤ (E.flat xs ++ tl).length := by rw [List.length_append, E.flat_length, hk]; omega
  simp only [Array.getElem?_setIfInBounds, Array.size_setIfInBounds, List.size_toArray, List.getElem?_toArray]
  rw [E.flat_tail xs i x hi tl j, hk, hx]
  by_cases c1 : i * 2 + 1 = j
  · subst c1
    rw [if_pos rfl, if_pos (by omega), if_pos (by omega), show i * 2 + 1 - i * 2 = 1 by omega]; rfl
  · rw [if_neg c1]
    by_cases c0 : i * 2 = j
    · subst c0
      rw [if_pos rfl, if_pos (by omega), if_pos (by omega), Nat.sub_self]; rfl
    · rw [if_neg c0, if_neg (by omega)]
/-- A signal is laid into a vector. -/
theorem VecAt.sg {w : World} {g : Nat} {v : Vec} (h : VecAt w g v) (hv : v.Ok) {i : Nat} (hi : i < 26) (x : Sg) :
    VecAt (((w.setCell ⟨g, i * 3, none⟩ (.bool x.sh)).setCell ⟨g, i * 3 + 1, none⟩ (.bool x.so)).setCell ⟨g, i * 3 + 2, none⟩ (.int .i64 x.pr)) g { v with sg := v.sg.set i x } := by
  have h1 := blk_put (blk_put (blk_put h (i * 3) (.bool x.sh)) (i * 3 + 1) (.bool x.so)) (i * 3 + 2) (.int .i64 x.pr)
  unfold VecAt
  rw [h1]
  unfold Vec.cs
  rw [List.append_assoc, put_three sgE rfl v.sg i x (by rw [hv.1]; exact hi) _ _ _ _ rfl, List.append_assoc]
theorem VecAt.top {w : World} {g : Nat} {v : Vec} (h : VecAt w g v) (hv : v.Ok) (z : Int) : VecAt (w.setCell ⟨g, 78, none⟩ (.int .i64 z)) g { v with top := z } := by
  have h1 := blk_put h 78 (.int .i64 z)
  unfold VecAt
  rw [h1]
  have e : (sgE.flat v.sg).length = 78 := by rw [sgE.flat_length, hv.1]; rfl
  unfold Vec.cs
  simp only [List.append_assoc]
  rw [List.setIfInBounds_toArray, List.set_append_right _ _ (by omega), e]
  rfl
theorem VecAt.tone {w : World} {g : Nat} {v : Vec} (h : VecAt w g v) (hv : v.Ok) (z : Int) : VecAt (w.setCell ⟨g, 79, none⟩ (.int .i64 z)) g { v with tone := z } := by
  have h1 := blk_put h 79 (.int .i64 z)
  unfold VecAt
  rw [h1]
  have e : (sgE.flat v.sg).length = 78 := by rw [sgE.flat_length, hv.1]; rfl
  unfold Vec.cs
  simp only [List.append_assoc]
  rw [List.setIfInBounds_toArray, List.set_append_right _ _ (by omega), e]
  rfl
theorem VecAt.fl {w : World} {g : Nat} {v : Vec} (h : VecAt w g v) (hv : v.Ok) (z : Bool) : VecAt (w.setCell ⟨g, 80, none⟩ (.bool z)) g { v with fl := z } := by
  have h1 := blk_put h 80 (.bool z)
  unfold VecAt
  rw [h1]
  have e : (sgE.flat v.sg).length = 78 := by rw [sgE.flat_length, hv.1]; rfl
  unfold Vec.cs
  simp only [List.append_assoc]
  rw [List.setIfInBounds_toArray, List.set_append_right _ _ (by omega), e]
  rfl
theorem blE_flat (l : List Bool) : blE.flat l = l.map Value.bool := by
  induction l with
  | nil => rfl
  | cons x r ih => rw [blE.flat_cons, ih]; rfl
theorem VecAt.lk {w : World} {g : Nat} {v : Vec} (h : VecAt w g v) (hv : v.Ok) (i : Nat) (z : Bool) : VecAt (w.setCell ⟨g, 81 + i, none⟩ (.bool z)) g { v with lk := v.lk.set i z } := by
  have h1 := blk_put h (81 + i) (.bool z)
  unfold VecAt
  rw [h1]
  have e : (sgE.flat v.sg).length = 78 := by rw [sgE.flat_length, hv.1]; rfl
  unfold Vec.cs
  have e2 : (sgE.flat v.sg ++ [Value.int .i64 v.top, .int .i64 v.tone, .bool v.fl]).length = 81 := by rw [List.length_append, e]; rfl
  rw [List.setIfInBounds_toArray, List.set_append_right _ _ (by omega), e2, Nat.add_sub_cancel_left, blE_flat, blE_flat, List.map_set]
theorem ViewAt.st {w : World} {g : Nat} {l : List St} (h : ViewAt w g l) {i : Nat} (hi : i < l.length) (x : St) :
    ViewAt ((w.setCell ⟨g, i * 2, none⟩ (.bool x.sh)).setCell ⟨g, i * 2 + 1, none⟩ (.int .i64 x.pr)) g (l.set i x) := by
  have h1 := blk_put (blk_put h (i * 2) (.bool x.sh)) (i * 2 + 1) (.int .i64 x.pr)
  unfold ViewAt
  rw [h1]
  have := put_two stE rfl l i x hi [] (.bool x.sh) (.int .i64 x.pr) rfl
  rw [List.append_nil, List.append_nil] at this
  rw [this]
theorem VecAt.after {w w' : World} {g : Nat} {v : Vec} (h : VecAt w g v) (a : After w w') : VecAt w' g v := After.at a h
theorem ViewAt.after {w w' : World} {g : Nat} {l : List St} (h : ViewAt w g l) (a : After w w') : ViewAt w' g l := After.at a h
theorem VecAt.cell_sg {w : World} {g : Nat} {v : Vec} (h : VecAt w g v) (hv : v.Ok) {i : Nat} {x : Sg} (hx : v.sg[i]? = some x) :
    w.cell? ⟨g, i * 3, none⟩ = some (.bool x.sh) ∧ w.cell? ⟨g, i * 3 + 1, none⟩ = some (.bool x.so) ∧ w.cell? ⟨g, i * 3 + 2, none⟩ = some (.int .i64 x.pr) :=
  ⟨blk_cell h (by rw [List.getElem?_toArray]; exact Vec.cs_sg hv hx (j := 0) (by decide)), blk_cell h (by rw [List.getElem?_toArray]; exact Vec.cs_sg hv hx (j := 1) (by decide)), blk_cell h (by rw [List.getElem?_toArray]; exact Vec.cs_sg hv hx (j := 2) (by decide))⟩
theorem VecAt.cell_mid {w : World} {g : Nat} {v : Vec} (h : VecAt w g v) (hv : v.Ok) :
    w.cell? ⟨g, 78, none⟩ = some (.int .i64 v.top) ∧ w.cell? ⟨g, 79, none⟩ = some (.int .i64 v.tone) ∧ w.cell? ⟨g, 80, none⟩ = some (.bool v.fl) :=
  ⟨blk_cell h (by rw [List.getElem?_toArray]; exact Vec.cs_mid hv (j := 0) (by decide)), blk_cell h (by rw [List.getElem?_toArray]; exact Vec.cs_mid hv (j := 1) (by decide)), blk_cell h (by rw [List.getElem?_toArray]; exact Vec.cs_mid hv (j := 2) (by decide))⟩
theorem VecAt.cell_lk {w : World} {g : Nat} {v : Vec} (h : VecAt w g v) (hv : v.Ok) {i : Nat} (hi : i < 4) : w.cell? ⟨g, 81 + i, none⟩ = some (.bool (v.lk.getD i false)) :=
  blk_cell h (by rw [List.getElem?_toArray]; exact Vec.cs_lk hv hi)
theorem ViewAt.cell {w : World} {g : Nat} {l : List St} (h : ViewAt w g l) {i : Nat} {x : St} (hx : l[i]? = some x) :
    w.cell? ⟨g, i * 2, none⟩ = some (.bool x.sh) ∧ w.cell? ⟨g, i * 2 + 1, none⟩ = some (.int .i64 x.pr) :=
  ⟨blk_cell h (by rw [List.getElem?_toArray]; exact stE.flat_at l i x hx 0 (by decide)), blk_cell h (by rw [List.getElem?_toArray]; exact stE.flat_at l i x hx 1 (by decide))⟩
/-- The signals of a vector, as a range of cells. -/
theorem VecAt.range_sg {w : World} {g : Nat} {v : Vec} (h : VecAt w g v) : w.rangeAt g 0 (sgE.flat v.sg) := fun j u hj => by
  rw [Nat.zero_add]
  refine blk_cell h ?_
  have hl : j < (sgE.flat v.sg).length := (List.getElem?_eq_some_iff.1 hj).1
  rw [List.getElem?_toArray]
  unfold Vec.cs
  rw [List.append_assoc, List.getElem?_append_left hl]
  exact hj
end Go.Proofs.Ytaiagijepnaalaa
