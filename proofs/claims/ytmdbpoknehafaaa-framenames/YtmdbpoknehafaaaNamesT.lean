/-
  What each slot of FrameNames' last statement holds, whatever the order of its operations.
-/
import Derived.Test.YtmdbpoknehafaaaOpsB
namespace Go.Proofs.Ytmdbpoknehafaaa
open Go.RowKit
/-- What a slot holds: true (0), a number (1), bytes (2), lists of bytes (3). -/
structure Kd where
  kind : Nat
  num : Int
  row : List Int
  lst : List (List Int)
def kT : Kd := ⟨0, 0, [], []⟩
def kN (n : Int) : Kd := ⟨1, n, [], []⟩
def kR (z : List Int) : Kd := ⟨2, 0, z, []⟩
def kL (fs : List (List Int)) : Kd := ⟨3, 0, [], fs⟩
def Holds (k : Kd) (v : Value) (w : World) : Prop := if k.kind = 0 then v = .bool true else if k.kind = 1 then v = .int .i64 k.num else if k.kind = 2 then RowB w v k.row else LstB w v k.lst
theorem Holds.after {k : Kd} {v : Value} {w w' : World} (h : Holds k v w) (b : After w w') : Holds k v w' := by
  unfold Holds at *
  split
  · rename_i e; rw [if_pos e] at h; exact h
  · rename_i e; rw [if_neg e] at h
    split
    · rename_i e; rw [if_pos e] at h; exact h
    · rename_i e; rw [if_neg e] at h
      split
      · rename_i e; rw [if_pos e] at h; exact h.after b
      · rename_i e; rw [if_neg e] at h; exact h.after b
/-- The slot of an operation. -/
def DD (k : Nat) : Nat := if k = 66 then 0 else k + 63
section
variable {L : List Kd} {Base : Act → World → Prop} {o : Oper} {k : Nat}
/-- What is known behind operation k. -/
def TT (L : List Kd) (k : Nat) (v : Value) (w : World) : Prop := Holds (L.getD k kT) v w
/-- Operation i is waited for. -/
def wait (o : Oper) (i : Nat) : Bool := o.after.toList.any (fun e => e.on == i && Region.binds .any e)
theorem ok_mk (h1 : o.dst = some (DD k)) (h2 : o.after.toList.all (fun e => decide (e.on < k)) = true) (h3 : o.guard = none ∨ ∃ j, o.guard = some (j, true) ∧ wait o j = true ∧ L.getD j kT = kT)
    (h4 : ∀ (a : Act) (w : World) (K : Act → World → Prop) (Q : Exit → Act → World → Prop), (∀ i, wait o i = true → Holds (L.getD i kT) (a.tmps.getD (DD i) undef) w) → Base a w → (∀ v w', Holds (L.getD k kT) v w' → After w w' → K (a.put o.dst v) w') → Oper.wp Try.prog o a w K Q) :
    OpOk Try.prog (TT L) DD Base k o := by
  have hw : ∀ {i}, wait o i = true → ∃ e ∈ o.after, e.on = i ∧ Region.binds .any e = true := fun {i} h => by
    unfold wait at h
    obtain ⟨e, he, hb⟩ := List.any_eq_true.1 h
    have he : e ∈ o.after := Array.mem_toList_iff.1 he
    simp only [Bool.and_eq_true, beq_iff_eq] at hb
    exact ⟨e, he, hb.1, hb.2⟩
  refine ⟨h1, fun e he => ?_, ?_, fun a w K Q hd hb hk => h4 a w K Q (fun i hi => ?_) hb hk⟩
  · exact of_decide_eq_true (List.all_eq_true.1 h2 e (Array.mem_toList_iff.2 he))
  · rcases h3 with h | ⟨j, g1, g2, g3⟩
    · exact .inl h
    · refine .inr ⟨j, g1, hw g2, fun v w h => ?_⟩
      unfold TT at h
      rw [g3] at h
      exact h
  · obtain ⟨e, he, hei, hbd⟩ := hw hi
    have := hd e he hbd
    rw [hei] at this
    exact this
theorem ok_const {v : Value} (ho : o.op = .move (.const v)) (hv : ∀ w, Holds (L.getD k kT) v w) (h1 : o.dst = some (DD k)) (h2 : o.after.toList.all (fun e => decide (e.on < k)) = true) (h3 : o.guard = none ∨ ∃ j, o.guard = some (j, true) ∧ wait o j = true ∧ L.getD j kT = kT) : OpOk Try.prog (TT L) DD Base k o :=
  ok_mk h1 h2 h3 (fun _a w _K _Q _ _ hk => wp_move ho (hk _ _ (hv w) After.rfl))
theorem ok_move (i : Nat) (ho : o.op = .move (.tmp (DD i))) (hi : wait o i = true) (hv : L.getD i kT = L.getD k kT) (h1 : o.dst = some (DD k)) (h2 : o.after.toList.all (fun e => decide (e.on < k)) = true) (h3 : o.guard = none ∨ ∃ j, o.guard = some (j, true) ∧ wait o j = true ∧ L.getD j kT = kT) : OpOk Try.prog (TT L) DD Base k o :=
  ok_mk h1 h2 h3 (fun a w K Q hd _ hk => wp_move ho (hk _ _ (by rw [← hv]; exact hd i hi) After.rfl))
theorem ok_assign (i : Nat) (ho : o.op = .assign (.tmp (DD i))) (hi : wait o i = true) (hv : L.getD i kT = L.getD k kT) (h1 : o.dst = some (DD k)) (h2 : o.after.toList.all (fun e => decide (e.on < k)) = true) (h3 : o.guard = none ∨ ∃ j, o.guard = some (j, true) ∧ wait o j = true ∧ L.getD j kT = kT) : OpOk Try.prog (TT L) DD Base k o :=
  ok_mk h1 h2 h3 (fun a w K Q hd _ hk => wp_assign ho (hk _ _ (by rw [← hv]; exact hd i hi) After.rfl))
theorem ok_base (s : Nat) (ho : o.op = .move (.tmp s)) (hv : ∀ (a : Act) w, Base a w → Holds (L.getD k kT) (a.tmps.getD s undef) w) (h1 : o.dst = some (DD k)) (h2 : o.after.toList.all (fun e => decide (e.on < k)) = true) (h3 : o.guard = none ∨ ∃ j, o.guard = some (j, true) ∧ wait o j = true ∧ L.getD j kT = kT) : OpOk Try.prog (TT L) DD Base k o :=
  ok_mk h1 h2 h3 (fun a w _K _Q _ hb hk => wp_move ho (hk _ _ (hv a w hb) After.rfl))
theorem ok_pick (c x : Nat) {y : Operand} (ho : o.op = .pick (.tmp (DD c)) (.tmp (DD x)) y) (hc : wait o c = true) (hx : wait o x = true) (hcv : L.getD c kT = kT) (hv : L.getD x kT = L.getD k kT) (h1 : o.dst = some (DD k)) (h2 : o.after.toList.all (fun e => decide (e.on < k)) = true) (h3 : o.guard = none ∨ ∃ j, o.guard = some (j, true) ∧ wait o j = true ∧ L.getD j kT = kT) : OpOk Try.prog (TT L) DD Base k o :=
  ok_mk h1 h2 h3 (fun a w K Q hd _ hk => wp_pick ho (by have := hd c hc; rw [hcv] at this; exact this) (hk _ _ (by rw [← hv]; exact hd x hx) After.rfl))
theorem ok_len (i n : Nat) (z : List Int) (ho : o.op = .call { callee := .builtin .len, args := #[.tmp (DD i)], argTypes := #[27] }) (hi : wait o i = true) (hv : L.getD i kT = kR z) (hn : z.length = n) (hk0 : L.getD k kT = kN n) (h1 : o.dst = some (DD k)) (h2 : o.after.toList.all (fun e => decide (e.on < k)) = true) (h3 : o.guard = none ∨ ∃ j, o.guard = some (j, true) ∧ wait o j = true ∧ L.getD j kT = kT) : OpOk Try.prog (TT L) DD Base k o :=
  ok_mk h1 h2 h3 (fun a w K Q hd _ hk => by
    have h := hd i hi
    rw [hv] at h
    obtain ⟨p, c, e, _⟩ := (show RowB w (a.tmps.getD (DD i) undef) z from h)
    exact wp_len ho (by kernel_rfl) (show a.eval (.tmp (DD i)) = _ from e) (hk _ _ (by rw [hk0, ← hn]; rfl) After.rfl))
theorem ok_eql (i : Nat) {t t' : Nat} (n : Int) (ho : o.op = .binOp .eql t (.tmp (DD i)) (.const (.int .i64 n)) t') (ht : Try.prog.underlying t = some (.int .i64)) (hi : wait o i = true) (hv : L.getD i kT = kN n) (hk0 : L.getD k kT = kT) (h1 : o.dst = some (DD k)) (h2 : o.after.toList.all (fun e => decide (e.on < k)) = true) (h3 : o.guard = none ∨ ∃ j, o.guard = some (j, true) ∧ wait o j = true ∧ L.getD j kT = kT) : OpOk Try.prog (TT L) DD Base k o :=
  ok_mk h1 h2 h3 (fun a w K Q hd _ hk => by
    have h := hd i hi
    rw [hv] at h
    exact wp_eql (n := n) ho ht h rfl (hk _ _ (by rw [hk0]; rfl) After.rfl))
theorem ok_call {f : Nat} {xs : Array Operand} {ts : Array Nat} (ho : o.op = .call { callee := .value (.func f), args := xs, argTypes := ts }) (hf : ∀ args W, (callFunc f args).run Try.prog W = .ok (.enter f args) W) (hk0 : L.getD k kT = kT)
    (hc : ∀ (a : Act) w, (∀ i, wait o i = true → Holds (L.getD i kT) (a.tmps.getD (DD i) undef) w) → Calls Try.prog f (xs.map a.eval) w fun e w' => e = .returned (.bool true) ∧ After w w') (h1 : o.dst = some (DD k)) (h2 : o.after.toList.all (fun e => decide (e.on < k)) = true) (h3 : o.guard = none ∨ ∃ j, o.guard = some (j, true) ∧ wait o j = true ∧ L.getD j kT = kT) : OpOk Try.prog (TT L) DD Base k o :=
  ok_mk h1 h2 h3 (fun a w K Q hd _ hk => wp_func ho hf ((hc a w hd).mono (fun e w' ⟨he, hA⟩ => ⟨_, he, hk _ _ (by rw [hk0]; rfl) hA⟩)))
theorem ok_bytes {n : Nat} {parts : Array (Nat × Operand)} (zs : List Int) (cells : Array Value) (ho : o.op = .buildSlice 27 n parts) (hk0 : L.getD k kT = kR zs) (hn : zs.length = n) (h0 : 0 < n) (hn1 : n ≤ 100) (hb : Bs zs) (hc : cells.toList = u8s zs)
    (hp : ∀ a : Act, Instr.fill (fun i => some (i * 1, 1)) ((Array.range (n * 1)).map ((Value.int .u8 0).cells[· % (Value.int .u8 0).cells.size]!)) (parts.map fun (i, x) => (i, a.eval x)).toList = some cells) (h1 : o.dst = some (DD k)) (h2 : o.after.toList.all (fun e => decide (e.on < k)) = true) (h3 : o.guard = none ∨ ∃ j, o.guard = some (j, true) ∧ wait o j = true ∧ L.getD j kT = kT) : OpOk Try.prog (TT L) DD Base k o :=
  ok_mk h1 h2 h3 (fun a w K Q _ _ hk => by
    obtain ⟨v, w', hr, hv, hA⟩ := run_bytes w n (parts.map fun (i, x) => (i, a.eval x)) zs cells hn h0 hn1 hb hc (hp a)
    exact wp_build ho hr (hk _ _ (by rw [hk0]; exact hv) hA))
theorem ok_make (n : Nat) (hn : n ≤ 65536) (ho : o.op = .makeSlice 27 (.const (.int .i64 n)) (.const (.int .i64 n))) (hk0 : L.getD k kT = kR (nils n)) (h1 : o.dst = some (DD k)) (h2 : o.after.toList.all (fun e => decide (e.on < k)) = true) (h3 : o.guard = none ∨ ∃ j, o.guard = some (j, true) ∧ wait o j = true ∧ L.getD j kT = kT) : OpOk Try.prog (TT L) DD Base k o :=
  ok_mk h1 h2 h3 (fun a w K Q _ _ hk => by
    obtain ⟨v, w', hr, hv, hA⟩ := run_noughts w n hn
    exact wp_make ho hr (hk _ _ (by rw [hk0]; exact hv) hA))
theorem ok_cut (i : Nat) (z : List Int) (l h : Nat) {lo hi : Option Operand} (ho : o.op = .slice 27 (.tmp (DD i)) lo hi none) (hi0 : wait o i = true) (hv : L.getD i kT = kR z) (hk0 : L.getD k kT = kR ((z.drop l).take (h - l))) (h0 : 0 < z.length) (hlh : l ≤ h) (hz : h ≤ z.length) (hm : z.length ≤ 140737488355328)
    (hlo : (lo = none ∧ l = 0) ∨ lo = some (.const (.int .i64 (l : Int)))) (hhi : (hi = none ∧ h = z.length) ∨ hi = some (.const (.int .i64 (h : Int)))) (h1 : o.dst = some (DD k)) (h2 : o.after.toList.all (fun e => decide (e.on < k)) = true) (h3 : o.guard = none ∨ ∃ j, o.guard = some (j, true) ∧ wait o j = true ∧ L.getD j kT = kT) : OpOk Try.prog (TT L) DD Base k o :=
  ok_mk h1 h2 h3 (fun a w K Q hd _ hk => by
    have hh := hd i hi0
    rw [hv] at hh
    obtain ⟨v', hr, hv'⟩ := run_cut w (a.tmps.getD (DD i) undef) z l h (lo.map a.eval) (hi.map a.eval) hh h0 hlh hz hm (hlo.imp (fun ⟨e, e2⟩ => ⟨by rw [e]; rfl, e2⟩) (fun e => by rw [e]; rfl)) (hhi.imp (fun ⟨e, e2⟩ => ⟨by rw [e]; rfl, e2⟩) (fun e => by rw [e]; rfl))
    exact wp_slice ho hr (hk _ _ (by rw [hk0]; exact hv') After.rfl))
theorem ok_lists {n : Nat} {parts : Array (Nat × Operand)} (fs : List (List Int)) (ho : o.op = .buildSlice 22 n parts) (hk0 : L.getD k kT = kL fs) (hn : fs.length = n) (h0 : 0 < n) (hn1 : n ≤ 100)
    (hp : ∀ (a : Act) w, (∀ i, wait o i = true → Holds (L.getD i kT) (a.tmps.getD (DD i) undef) w) → ∃ cells : Array Value, Each (RowB w) cells.toList fs ∧ Instr.fill (fun i => some (i * 1, 1)) ((Array.range (n * 1)).map ((Value.slice none 0 0).cells[· % (Value.slice none 0 0).cells.size]!)) (parts.map fun (i, x) => (i, a.eval x)).toList = some cells) (h1 : o.dst = some (DD k)) (h2 : o.after.toList.all (fun e => decide (e.on < k)) = true) (h3 : o.guard = none ∨ ∃ j, o.guard = some (j, true) ∧ wait o j = true ∧ L.getD j kT = kT) : OpOk Try.prog (TT L) DD Base k o :=
  ok_mk h1 h2 h3 (fun a w K Q hd _ hk => by
    obtain ⟨cells, he, hf⟩ := hp a w hd
    obtain ⟨v, w', hr, hv, hA⟩ := run_lists w n (parts.map fun (i, x) => (i, a.eval x)) fs cells hn h0 hn1 he hf
    exact wp_build ho hr (hk _ _ (by rw [hk0]; exact hv) hA))
end
end Go.Proofs.Ytmdbpoknehafaaa
