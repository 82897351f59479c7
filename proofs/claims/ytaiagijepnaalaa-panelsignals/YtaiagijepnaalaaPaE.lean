/-
  Arrays and structs that are compared as a whole: views, signals, vectors.
-/
import Derived.Test.YtaiagijepnaalaaPaD
namespace Go.Proofs.Ytaiagijepnaalaa
open Go.RowKit
set_option maxRecDepth 8000
theorem part_agg {e : TypeId} {k : Nat} (ha : ∀ V, (isAgg e).run Try.prog V = .ok true V) (hs : ∀ V, (sizeOf e).run Try.prog V = .ok k V) (cs : Array Value) (off : Nat) (w : World) : (part e cs off).run Try.prog w = .ok (.agg (cs.extract off (off + k))) w := by
  simp [part, Sem.run_bind, ha, hs]
/-- Things in a row are compared one by one. -/
theorem eqItems_enc {α : Type} [DecidableEq α] (E : Enc α) (z : α) (d : Nat) (e : TypeId) (ha : ∀ V, (isAgg e).run Try.prog V = .ok true V) (hs : ∀ V, (sizeOf e).run Try.prog V = .ok E.k V)
    (heq : ∀ x y V, (Op.equalIn d e (.agg (E.enc x).toArray) (.agg (E.enc y).toArray)).run Try.prog V = .ok (decide (x = y)) V) (xs ys : List α) (w : World) :
    ∀ is : List Nat, (∀ i ∈ is, i < xs.length ∧ i < ys.length) → (Op.eqItems d e E.k (E.flat xs).toArray (E.flat ys).toArray is).run Try.prog w = .ok (is.all fun i => decide (xs.getD i z = ys.getD i z)) w
  | [], _ => by simp [Op.eqItems]
  | i :: is, h => by
    have hi := h i (by simp)
    have e1 := E.flat_part xs i _ (get_some xs z hi.1)
    have e2 := E.flat_part ys i _ (get_some ys z hi.2)
    have ih := eqItems_enc E z d e ha hs heq xs ys w is (fun j hj => h j (by simp [hj]))
    simp only [Op.eqItems, Sem.run_bind, part_agg ha hs, Result.andThen_ok, List.extract_toArray, List.extract_eq_take_drop, Nat.add_sub_cancel_left, e1, e2, heq, List.all_cons]
    cases hd : decide (xs.getD i z = ys.getD i z)
    · simp
    · simp only [Bool.not_true, Bool.false_eq_true, if_false, ih, Bool.true_and]
theorem all_range {α : Type} [DecidableEq α] {xs ys : List α} (z : α) {n : Nat} (h1 : xs.length = n) (h2 : ys.length = n) : ((List.range n).all fun i => decide (xs.getD i z = ys.getD i z)) = decide (xs = ys) := by
  by_cases h : xs = ys
  · subst h
    simp
  · rw [decide_eq_false h]
    cases e : ((List.range n).all fun i => decide (xs.getD i z = ys.getD i z))
    · rfl
    · exfalso
      apply h
      rw [List.all_eq_true] at e
      apply List.ext_getElem?
      intro i
      rcases Nat.lt_or_ge i n with hi | hi
      · have := of_decide_eq_true (e i (List.mem_range.2 hi))
        rw [get_some xs z (by omega), get_some ys z (by omega), this]
      · rw [List.getElem?_eq_none (by omega), List.getElem?_eq_none (by omega)]
theorem Try.fieldsSt : Try.prog.underlying 47 = some (.struct (Try.prog.fieldsOf 47)) := by kernel_rfl
theorem Try.fieldsSg : Try.prog.underlying 25 = some (.struct (Try.prog.fieldsOf 25)) := by kernel_rfl
theorem Try.fieldsVw : Try.prog.underlying 50 = some (.struct (Try.prog.fieldsOf 50)) := by kernel_rfl
theorem Try.fieldsVec : Try.prog.underlying 29 = some (.struct (Try.prog.fieldsOf 29)) := by kernel_rfl
theorem eqSt (d : Nat) (x y : St) (w : World) : (Op.equalIn (d + 2) 47 (.agg (stE.enc x).toArray) (.agg (stE.enc y).toArray)).run Try.prog w = .ok (decide (x = y)) w := by
  rw [run_equalIn_struct w (d + 1) _ _ _ Try.fieldsSt Try.stoodInHeld47]
  obtain ⟨a, b⟩ := x
  obtain ⟨a', b'⟩ := y
  simp [go_sem, stE]
  by_cases h1 : a = a' <;> by_cases h2 : b = b' <;> simp [h1, h2]
theorem eqSg (d : Nat) (x y : Sg) (w : World) : (Op.equalIn (d + 2) 25 (.agg (sgE.enc x).toArray) (.agg (sgE.enc y).toArray)).run Try.prog w = .ok (decide (x = y)) w := by
  rw [run_equalIn_struct w (d + 1) _ _ _ Try.fieldsSg Try.stoodInHeld25]
  obtain ⟨a, b, c⟩ := x
  obtain ⟨a', b', c'⟩ := y
  simp [go_sem, sgE]
  by_cases h1 : a = a' <;> by_cases h2 : b = b' <;> by_cases h3 : c = c' <;> simp [h1, h2, h3]
theorem Try.hasSt : (Try.prog.info? 47).isSome = true := by kernel_rfl
theorem Try.cellsSt : Try.prog.cellsOf 47 = 2 := by kernel_rfl
theorem Try.hasSg : (Try.prog.info? 25).isSome = true := by kernel_rfl
theorem Try.cellsSg : Try.prog.cellsOf 25 = 3 := by kernel_rfl
theorem Try.hasBl : (Try.prog.info? 4).isSome = true := by kernel_rfl
theorem Try.cellsBl : Try.prog.cellsOf 4 = 1 := by kernel_rfl
theorem eqSts (d : Nat) {l m : List St} (hl : l.length = 26) (hm : m.length = 26) (w : World) : (Op.equalIn (d + 3) 48 (viewV l) (viewV m)).run Try.prog w = .ok (decide (l = m)) w := by
  obtain ⟨i, hi⟩ := Option.isSome_iff_exists.1 Try.hasSt
  have hc := Try.cellsSt
  rw [run_equalIn_array w (d + 2) _ _ Try.underlying48 hi, hc]
  have := eqItems_enc stE St.zero (d + 2) 47 Try.isAgg47 Try.sizeOf47 (eqSt d) l m w (List.range 26) (fun i hi => by have := List.mem_range.1 hi; omega)
  rw [all_range St.zero hl hm] at this
  exact this
theorem eqSgs (d : Nat) {l m : List Sg} (hl : l.length = 26) (hm : m.length = 26) (w : World) : (Op.equalIn (d + 3) 26 (sgsV l) (sgsV m)).run Try.prog w = .ok (decide (l = m)) w := by
  obtain ⟨i, hi⟩ := Option.isSome_iff_exists.1 Try.hasSg
  have hc := Try.cellsSg
  rw [run_equalIn_array w (d + 2) _ _ Try.underlying26 hi, hc]
  have := eqItems_enc sgE Sg.zero (d + 2) 25 Try.isAgg25 Try.sizeOf25 (eqSg d) l m w (List.range 26) (fun i hi => by have := List.mem_range.1 hi; omega)
  rw [all_range Sg.zero hl hm] at this
  exact this
theorem eqView (d : Nat) {l m : List St} (hl : l.length = 26) (hm : m.length = 26) (w : World) : (Op.equalIn (d + 4) 50 (viewV l) (viewV m)).run Try.prog w = .ok (decide (l = m)) w := by
  rw [run_equalIn_struct w (d + 3) _ _ _ Try.fieldsVw Try.stoodInHeld50]
  have e1 : (stE.flat l).toArray.extract 0 52 = (stE.flat l).toArray := by rw [← view_size hl, ← List.size_toArray, Array.extract_size]
  have e2 : (stE.flat m).toArray.extract 0 52 = (stE.flat m).toArray := by rw [← view_size hm, ← List.size_toArray, Array.extract_size]
  have e3 := eqSts d hl hm
  unfold viewV at e3
  generalize (stE.flat l).toArray = C1 at *
  generalize (stE.flat m).toArray = C2 at *
  simp [go_sem, e1, e2, e3]
  by_cases h : l = m <;> simp [h]
theorem eqViews (x y : Operand) {l m : List St} (hl : l.length = 26) (hm : m.length = 26) (w : World) : (do eqGuard .eql 50 x y (viewV l) (viewV m); binOp .eql 50 (viewV l) (viewV m) : Sem Value).run Try.prog w = .ok (.bool (decide (l = m))) w := by
  simp only [Sem.run_bind, run_eqGuard_agg w .eql _ x y _ _ Try.eqGuardType50, Result.andThen_ok, run_eql_struct, eqView 9996 hl hm]
theorem eqLks (d : Nat) (l : List Bool) (hl : l.length = 4) (w : World) : (Op.equalIn (d + 2) 27 (.agg (blE.flat l).toArray) (.agg (blE.flat l).toArray)).run Try.prog w = .ok true w := by
  match l, hl with
  | [a, b, c, e], _ =>
    obtain ⟨i, hi⟩ := Option.isSome_iff_exists.1 Try.hasBl
    have hc := Try.cellsBl
    rw [run_equalIn_array w (d + 1) _ _ Try.underlying27 hi, hc, blE_flat]
    rw [show List.range 4 = [0, 1, 2, 3] from rfl]
    simp [Op.eqItems, part, go_sem]
theorem eqVec (d : Nat) {v : Vec} (hv : v.Ok) (w : World) : (Op.equalIn (d + 4) 29 v.v v.v).run Try.prog w = .ok true w := by
  rw [run_equalIn_struct w (d + 3) _ _ _ Try.fieldsVec Try.stoodInHeld29]
  have e1 : v.cs.toArray.extract 0 78 = (sgE.flat v.sg).toArray := by
    rw [List.extract_toArray, List.extract_eq_take_drop]
    unfold Vec.cs
    rw [List.drop_zero, List.append_assoc, List.take_append_of_le_length (by rw [sgs_size hv.1]; omega), List.take_of_length_le (by rw [sgs_size hv.1]; omega)]
  have e2 : v.cs.toArray.extract 81 85 = (blE.flat v.lk).toArray := by
    rw [List.extract_toArray, List.extract_eq_take_drop]
    unfold Vec.cs
    have hl : (sgE.flat v.sg ++ [Value.int .i64 v.top, .int .i64 v.tone, .bool v.fl]).length = 81 := by rw [List.length_append, sgs_size hv.1]; rfl
    rw [List.drop_append_of_le_length (by omega), List.drop_of_length_le (by omega), List.nil_append, List.take_of_length_le (by rw [blE.flat_length, hv.2]; decide)]
  have m0 := Vec.cs_mid hv (j := 0) (by decide)
  have m1 := Vec.cs_mid hv (j := 1) (by decide)
  have m2 := Vec.cs_mid hv (j := 2) (by decide)
  have e3 := eqSgs d hv.1 hv.1
  unfold sgsV at e3
  have e4 := eqLks (d + 1) v.lk hv.2
  have m0' : v.cs.toArray[78]? = some (.int .i64 v.top) := by rw [List.getElem?_toArray]; exact m0
  have m1' : v.cs.toArray[79]? = some (.int .i64 v.tone) := by rw [List.getElem?_toArray]; exact m1
  have m2' : v.cs.toArray[80]? = some (.bool v.fl) := by rw [List.getElem?_toArray]; exact m2
  clear m0 m1 m2
  generalize v.cs.toArray = C at *
  simp [go_sem, e1, e2, e3, e4, m0', m1', m2']
theorem neVecs (x y : Operand) {v : Vec} (hv : v.Ok) (w : World) : (do eqGuard .neq 29 x y v.v v.v; binOp .neq 29 v.v v.v : Sem Value).run Try.prog w = .ok (.bool false) w := by
  simp only [Sem.run_bind, run_eqGuard_agg w .neq _ x y _ _ Try.eqGuardType29, Result.andThen_ok, run_neq_struct, eqVec 9996 hv]
  rfl
theorem eqSgs2 (x y : Operand) {l : List Sg} (hl : l.length = 26) (w : World) : (do eqGuard .eql 26 x y (sgsV l) (sgsV l); binOp .eql 26 (sgsV l) (sgsV l) : Sem Value).run Try.prog w = .ok (.bool true) w := by
  simp only [Sem.run_bind, run_eqGuard_agg w .eql _ x y _ _ Try.eqGuardType26, Result.andThen_ok, run_eql_struct, eqSgs 9997 hl hl]
  simp
end Go.Proofs.Ytaiagijepnaalaa
