/-
  Laid together: NmA.
-/
import Derived.Test.YthcfdoafncbliaaGreatB27
import Derived.Test.YthcfdoafncbliaaGreatB23
import Derived.Test.YthcfdoafncbliaaGreatB31
import Derived.Great.BuildSlice
/-
  What the slots of AssocNames hold: messages, numbers, lists of them, whatever they say; its operations.
-/
namespace Go.Proofs.YthcfdoafncbliaaGreat
open Go.RowKit Go.Maps
set_option maxRecDepth 8000
/-- A message whose lists lie in blocks of which P holds. -/
def Gp (P : Nat → Prop) (w : World) (v : Value) : Prop := ∃ M sa sc oa oc ba bc, v = Msg.val M sa sc oa oc ba bc ∧ MsgX w P M sa sc oa oc ba bc ∧ M.objs.length ≤ 100 ∧ M.obs.length ≤ 100
theorem Gp.but {S P : Nat → Prop} {w w' : World} {v : Value} (h : Gp P w v) (b : But S w w') (hn : ∀ k, P k → ¬ S k) : Gp P w' v := by
  obtain ⟨M, sa, sc, oa, oc, ba, bc, e, x, h1, h2⟩ := h
  exact ⟨M, sa, sc, oa, oc, ba, bc, e, x.but b hn, h1, h2⟩
theorem Gp.after {P : Nat → Prop} {w w' : World} {v : Value} (h : Gp P w v) (b : After w w') : Gp P w' v := h.but b (fun _ _ t => t)
theorem Gp.mono {P T : Nat → Prop} {w : World} {v : Value} (h : Gp P w v) (ht : ∀ k, P k → k < w.heap.size → T k) : Gp T w v := by
  obtain ⟨M, sa, sc, oa, oc, ba, bc, e, x, h1, h2⟩ := h
  exact ⟨M, sa, sc, oa, oc, ba, bc, e, x.upto.mono (fun k hk => ht k hk.1 hk.2), h1, h2⟩
theorem Gp.seven {P : Nat → Prop} {w : World} {v : Value} (h : Gp P w v) : v.cells.size = 7 ∧ ∀ u ∈ v.cells.toList, u.oneCell' = true := by
  obtain ⟨M, sa, sc, oa, oc, ba, bc, rfl, _⟩ := h
  refine ⟨rfl, fun u hu => ?_⟩
  simp only [Msg.val, Value.cells, List.mem_cons, List.not_mem_nil, or_false] at hu
  rcases hu with rfl | rfl | rfl | rfl | rfl | rfl | rfl <;> rfl
theorem gp_nils (P : Nat → Prop) (w : World) (k c r q : Int) : Gp P w (.agg #[.int .i64 k, .slice none 0 0, .int .i64 c, .int .i64 r, .int .i64 q, .slice none 0 0, .slice none 0 0]) :=
  ⟨⟨k, [], c, r, q, [], []⟩, none, 0, none, 0, none, 0, rfl, MsgX.nils _ _ _ _ _ _, Nat.zero_le _, Nat.zero_le _⟩
def Nb (v : Value) : Prop := ∃ o : Bi, v = .agg #[.int .i64 o.h, .bool o.l, .int .u32 o.b] ∧ 0 ≤ o.b ∧ o.b < 4294967296
def Ns (B : Nat) (w : World) (v : Value) (n : Nat) : Prop := ∃ a c l, v = .slice a n c ∧ RowT w a n (List.map Bi.t3 l) ∧ (a = none → n = 0 ∧ c = 0) ∧ (∀ y, a = some y → B ≤ y.block) ∧ n ≤ 100 ∧ ∀ o ∈ l, 0 ≤ o.b ∧ o.b < 4294967296
theorem Ns.after {B : Nat} {w w' : World} {v : Value} {n : Nat} (h : Ns B w v n) (b : After w w') : Ns B w' v n := by
  obtain ⟨a, c, l, e, r, h1⟩ := h
  exact ⟨a, c, l, e, r.after b, h1⟩
def flatV (vs : List Value) : List Value := vs.flatMap fun v => v.cells.toList
theorem flatV_append (vs us : List Value) : flatV (vs ++ us) = flatV vs ++ flatV us := List.flatMap_append
theorem flatV_length {vs : List Value} {s : Nat} (h : ∀ v ∈ vs, v.cells.size = s) : (flatV vs).length = vs.length * s := by
  induction vs with
  | nil => simp [flatV]
  | cons v r ih =>
    show (v.cells.toList ++ flatV r).length = _
    rw [List.length_append, ih (fun u hu => h u (List.mem_cons_of_mem _ hu)), Array.length_toList, h v List.mem_cons_self, List.length_cons, Nat.succ_mul]
    omega
/-- Messages one behind the other, in memory of their own; their lists in blocks of which P holds. -/
def Lp (A : Nat) (P : Nat → Prop) (w : World) (v : Value) (n : Nat) : Prop := ∃ vs, vs.length = n ∧ (∀ x ∈ vs, Gp P w x) ∧ w.ownsRow A 31 7 v n (flatV vs)
theorem Lp.after {A : Nat} {P : Nat → Prop} {w w' : World} {v : Value} {n : Nat} (h : Lp A P w v n) (b : After w w') : Lp A P w' v n := by
  obtain ⟨vs, h1, h2, h3⟩ := h
  exact ⟨vs, h1, fun x hx => (h2 x hx).after b, own_after h3 b⟩
/-- Blocks that are not a row's own. -/
def Far (v : Value) : Nat → Prop := fun k => v.ownBlock ≠ some k
theorem Tryz.infoM : (Tryz.prog.info? 31).map (fun i => (i.zero, i.size, i.bytes)) = some (some (.agg #[.int .i64 0, .slice none 0 0, .int .i64 0, .int .i64 0, .int .i64 0, .slice none 0 0, .slice none 0 0]), 7, 104) := by kernel_rfl
/-- Some messages more. -/
theorem nm_append {A B : Nat} {w : World} {v u : Value} {n m : Nat} (ty : TypeId) (h : Lp A (Far v) w v n) (hv : ∀ k, v.ownBlock = some k → k < B) (k : Lp B (fun k => B ≤ k) w u m) (hm : 0 < m) (hs : n + m ≤ 1000) (hbase : A ≤ w.heap.size) :
    ∃ v' w', (Builtin.append_ #[22, 22] ty #[v, u]).run Tryz.prog w = .ok v' w' ∧ Lp A (Far v') w' v' (n + m) ∧ But (fun k => v.ownBlock = some k) w w' := by
  obtain ⟨i0, hi, hz0, hz1, hz2⟩ := info_parts Tryz.infoM
  obtain ⟨vs, h1, h2, h3⟩ := h
  obtain ⟨us, k1, k2, k3⟩ := k
  rcases k3.2 with ⟨_, e0⟩ | ⟨g, cap, cur, rfl, _⟩
  · omega
  · obtain ⟨v', w', hr, p1, p2, _, p4⟩ := run_append_own_at (P := Tryz.prog) w A 22 ty 31 i0 _ 7 104 Tryz.underlying22 hi hz0 hz1 hz2 rfl (by decide) v n (flatV vs) h3 ⟨g, 0, none⟩ m cap (flatV us) k3.1 (k3.cells rfl) (fun u hu => by
      obtain ⟨x, hx, hu⟩ := List.mem_flatMap.1 hu
      exact (k2 x hx).seven.2 u hu) (by unfold maxLen; omega) (by omega) hbase
    have hB : But (fun k => v.ownBlock = some k) w w' := But.grown But.rfl p2 (fun k hk _ => hk)
    refine ⟨v', w', hr, ⟨vs ++ us, by rw [List.length_append, h1, k1], fun x hx => ?_, by rw [flatV_append]; exact p1⟩, hB⟩
    have far : ∀ k, v.ownBlock ≠ some k → k < w.heap.size → Far v' k := fun k hk hl e => by
      rcases p4 with p4 | p4
      · exact hk (p4 ▸ e)
      · rw [p4] at e; cases e; omega
    rcases List.mem_append.1 hx with hx | hx
    · exact ((h2 x hx).mono (T := fun k => v.ownBlock ≠ some k ∧ Far v' k) (fun k hk hl => ⟨hk, far k hk hl⟩)).but hB (fun k hk t => hk.1 t) |>.mono (fun k hk _ => hk.2)
    · exact ((k2 x hx).mono (T := fun k => v.ownBlock ≠ some k ∧ Far v' k) (fun k hk hl => by
        have hne : v.ownBlock ≠ some k := fun e => by have := hv k e; omega
        exact ⟨hne, far k hne hl⟩)).but hB (fun k hk t => hk.1 t) |>.mono (fun k hk _ => hk.2)
/-- Messages that are listed. -/
theorem nm_list {A : Nat} {P : Nat → Prop} {w : World} (hA : A ≤ w.heap.size) (vs : List Value) (n : Nat) (hn : vs.length = n) (h0 : 0 < n) (h1 : n ≤ 100) (parts : Array (Nat × Value)) (hp : parts.toList = (vs.zipIdx 0).map fun x => (x.2, x.1)) (hv : ∀ x ∈ vs, Gp P w x) :
    ∃ v w', (Instr.buildSlice 22 n parts).run Tryz.prog w = .ok v w' ∧ Lp A (fun k => P k ∧ Far v k) w' v n ∧ After w w' := by
  obtain ⟨i0, hi, hz0, hz1, hz2⟩ := info_parts Tryz.infoM
  have hsz : ∀ v ∈ vs, v.cells.size = 7 := fun v hx => (hv v hx).seven.1
  have hr := Go.run_buildSlice (P := Tryz.prog) w 22 31 n parts (flatV vs).toArray i0 _ Tryz.underlying22 hi hz0 (by rw [hz1]; omega) (by rw [hz1]; omega) (by
    rw [hz1, hp]; exact Great.fill_whole (by decide) vs _ hsz (by simp [hn]))
  have hA' : After w (w.alloc (.cells (flatV vs).toArray 31)) := After.rfl.alloc _
  exact ⟨_, _, hr, ⟨vs, hn, fun x hx => ((hv x hx).mono (T := fun k => P k ∧ Far (.slice (some ⟨w.heap.size, 0, none⟩) n n) k) (fun k hk hl => ⟨hk, fun e => by cases e; exact absurd hl (Nat.lt_irrefl _)⟩)).after hA', World.ownsRow_lit w (flatV vs).toArray n hA (by unfold maxLen; omega) (by rw [List.size_toArray, flatV_length hsz, hn])⟩, hA'⟩
theorem flat_nb : ∀ {vs : List Value}, (∀ x ∈ vs, Nb x) → ∃ l : List Bi, l.length = vs.length ∧ flatV vs = cells3 (l.map Bi.t3) ∧ ∀ o ∈ l, 0 ≤ o.b ∧ o.b < 4294967296
  | [], _ => ⟨[], rfl, rfl, fun o ho => by cases ho⟩
  | v :: r, h => by
    obtain ⟨l, e1, e2, e3⟩ := flat_nb (vs := r) (fun x hx => h x (List.mem_cons_of_mem _ hx))
    obtain ⟨o, rfl, hb⟩ := h v List.mem_cons_self
    refine ⟨o :: l, by simp [e1], ?_, fun x hx => ?_⟩
    · show (#[_, _, _] : Array Value).toList ++ flatV r = _
      rw [e2]; rfl
    · rcases List.mem_cons.1 hx with rfl | hx
      · exact hb
      · exact e3 x hx
theorem nm_obs {B : Nat} {w : World} (hB : B ≤ w.heap.size) (vs : List Value) (n : Nat) (hn : vs.length = n) (h0 : 0 < n) (h1 : n ≤ 100) (parts : Array (Nat × Value)) (hp : parts.toList = (vs.zipIdx 0).map fun x => (x.2, x.1)) (hv : ∀ x ∈ vs, Nb x) :
    ∃ v w', (Instr.buildSlice 29 n parts).run Tryz.prog w = .ok v w' ∧ Ns B w' v n ∧ After w w' := by
  obtain ⟨i0, hi, hz0, hz1, hz2⟩ := info_parts Tryz.info54
  have hsz : ∀ v ∈ vs, v.cells.size = 3 := fun v hx => by obtain ⟨o, rfl, _⟩ := hv v hx; rfl
  have hr := Go.run_buildSlice (P := Tryz.prog) w 29 54 n parts (flatV vs).toArray i0 _ Tryz.underlying29 hi hz0 (by rw [hz1]; omega) (by rw [hz1]; omega) (by
    rw [hz1, hp]; exact Great.fill_whole (by decide) vs _ hsz (by simp [hn]))
  obtain ⟨l, e1, e2, e3⟩ := flat_nb hv
  rw [e2] at hr
  have hl : l.length = n := by omega
  have h := RowT.of (w := w.alloc (.cells (cells3 (l.map Bi.t3)).toArray 54)) (b := w.heap.size) (xs := l.map Bi.t3) (T := 54) (heap_alloc_new w _)
  rw [List.length_map, hl] at h
  exact ⟨_, _, hr, ⟨_, _, l, rfl, h, (fun e => by cases e), (fun y hy => by cases hy; exact hB), h1, e3⟩, After.rfl.alloc _⟩
/-- What a slot holds: a message (0), a number (1), numbers (2), messages that are new (3), the list (4). -/
def HoldN (A B : Nat) (k : Nat × Nat) (v : Value) (w : World) : Prop :=
  if k.1 = 0 then Gp (fun k => B ≤ k) w v else if k.1 = 1 then Nb v else if k.1 = 2 then Ns B w v k.2 else if k.1 = 3 then Lp B (fun k => B ≤ k) w v k.2 else Lp A (Far v) w v k.2 ∧ ∀ k, v.ownBlock = some k → k < B
theorem HoldN.after {A B : Nat} {k : Nat × Nat} {v : Value} {w w' : World} (h : HoldN A B k v w) (b : After w w') : HoldN A B k v w' := by
  unfold HoldN at h ⊢
  split at h
  · rename_i e; rw [if_pos e]; exact h.after b
  · rename_i e; rw [if_neg e]
    split at h
    · rename_i e; rw [if_pos e]; exact h
    · rename_i e; rw [if_neg e]
      split at h
      · rename_i e; rw [if_pos e]; exact h.after b
      · rename_i e; rw [if_neg e]
        split at h
        · rename_i e; rw [if_pos e]; exact h.after b
        · rename_i e; rw [if_neg e]; exact ⟨h.1.after b, h.2⟩
def TN (A B : Nat) (L : List (Nat × Nat)) (k : Nat) (v : Value) (w : World) : Prop := HoldN A B (L.getD k (9, 0)) v w
theorem parts_at (a : Act) (parts : Array (Nat × Operand)) (xs : List Operand) (hp : parts.toList = (xs.zipIdx 0).map fun x => (x.2, x.1)) :
    (parts.map fun (i, x) => (i, a.eval x)).toList = ((xs.map a.eval).zipIdx 0).map fun x => (x.2, x.1) := by
  rw [Array.toList_map, hp, List.zipIdx_map, List.map_map, List.map_map]
  rfl
section
variable {A B d : Nat} {L : List (Nat × Nat)} {Base : Act → World → Prop} {o : Oper} {k : Nat}
def argN (L : List (Nat × Nat)) (o : Oper) (d kd : Nat) (x : Operand) : Bool :=
  match x with
  | .tmp s => decide (d ≤ s) && (wait o (s - d) && (L.getD (s - d) (9, 0)).1 == kd)
  | _ => false
theorem argN_holds {kd : Nat} {x : Operand} {a : Act} {w : World} (h : argN L o d kd x = true) (hd : ∀ i, wait o i = true → TN A B L i (a.tmps.getD (DD d i) undef) w) : ∃ n, HoldN A B (kd, n) (a.eval x) w := by
  unfold argN at h
  split at h
  · rename_i s
    simp only [Bool.and_eq_true, decide_eq_true_eq, beq_iff_eq] at h
    obtain ⟨h1, h2, h3⟩ := h
    have := hd _ h2
    unfold DD TN at this
    rw [show d + (s - d) = s by omega] at this
    refine ⟨(L.getD (s - d) (9, 0)).2, ?_⟩
    rw [← h3]; exact this
  · cases h
theorem argsN_all {kd : Nat} {xs : List Operand} {a : Act} {w : World} (h : xs.all (argN L o d kd) = true) (hd : ∀ i, wait o i = true → TN A B L i (a.tmps.getD (DD d i) undef) w) : ∀ v ∈ xs.map a.eval, ∃ n, HoldN A B (kd, n) v w := by
  intro v hv
  obtain ⟨x, hx, rfl⟩ := List.mem_map.1 hv
  exact argN_holds (List.all_eq_true.1 h x hx) hd
theorem n_ask (c : Int) (hB : ∀ (a : Act) w, Base a w → B ≤ w.heap.size) (ho : o.op = .call { callee := .value (.func 17), args := #[.const (.int .i64 c)], argTypes := #[3] }) (hk0 : L.getD k (9, 0) = (0, 0)) (h1 : o.dst = some (DD d k)) (h2 : o.after.toList.all (fun e => decide (e.on < k)) = true) (h3 : o.guard = none) : OpOk Tryz.prog (TN A B L) (DD d) Base k o :=
  op_mk h1 h2 (.inl h3) (fun a w K Q _ hb hk => wp_func ho (enter_of Tryz.func17 (by kernel_rfl) (by kernel_rfl)) (by
    rw [map1]
    refine (askL_any w c).mono ?_
    rintro e w' ⟨v, rfl, ⟨sa, sc, oa, oc, ba, bc, rfl, x⟩, hA⟩
    exact ⟨_, rfl, hk _ _ (by unfold TN; rw [hk0]; exact ⟨_, _, _, _, _, _, _, rfl, x.mono (fun k hk => Nat.le_trans (hB a w hb) hk.1), by simp [askM], by simp [askM]⟩) hA⟩))
theorem n_one (c : Int) (hB : ∀ (a : Act) w, Base a w → B ≤ w.heap.size) (ho : o.op = .call { callee := .value (.func 18), args := #[.const (.int .i64 c)], argTypes := #[3] }) (hk0 : L.getD k (9, 0) = (0, 0)) (h1 : o.dst = some (DD d k)) (h2 : o.after.toList.all (fun e => decide (e.on < k)) = true) (h3 : o.guard = none) : OpOk Tryz.prog (TN A B L) (DD d) Base k o :=
  op_mk h1 h2 (.inl h3) (fun a w K Q _ hb hk => wp_func ho (enter_of Tryz.func18 (by kernel_rfl) (by kernel_rfl)) (by
    rw [map1]
    refine (oneL_any w c).mono ?_
    rintro e w' ⟨v, rfl, ⟨sa, sc, oa, oc, ba, bc, rfl, x⟩, hA⟩
    exact ⟨_, rfl, hk _ _ (by unfold TN; rw [hk0]; exact ⟨_, _, _, _, _, _, _, rfl, x.mono (fun k hk => Nat.le_trans (hB a w hb) hk.1), by simp [oneM], by simp [oneM]⟩) hA⟩))
theorem n_scan (i n : Nat) (ho : o.op = .call { callee := .value (.func 19), args := #[.tmp (DD d i)], argTypes := #[29] }) (hi : wait o i = true) (hv : L.getD i (9, 0) = (2, n)) (hk0 : L.getD k (9, 0) = (0, 0)) (h1 : o.dst = some (DD d k)) (h2 : o.after.toList.all (fun e => decide (e.on < k)) = true) (h3 : o.guard = none) : OpOk Tryz.prog (TN A B L) (DD d) Base k o :=
  op_mk h1 h2 (.inl h3) (fun a w K Q hd _ hk => wp_func ho (enter_of Tryz.func19 (by kernel_rfl) (by kernel_rfl)) (by
    have h := hd i hi
    unfold TN at h
    rw [hv] at h
    obtain ⟨a0, c0, l, e, r, hn, hp, hl, hb⟩ := (show Ns B w (a.tmps.getD (DD d i) undef) n from h)
    rw [map1, show a.eval (.tmp (DD d i)) = .slice a0 n c0 from e]
    refine (scanL_any w a0 n c0 l (fun k => B ≤ k) r hn (fun y hy _ => hp y hy) hb).mono ?_
    rintro e w' ⟨rfl, x, hA⟩
    have hll : l.length = n := by have := r.1; simpa using this
    exact ⟨_, rfl, hk _ _ (by unfold TN; rw [hk0]; exact ⟨_, _, _, _, _, _, _, rfl, x, by simp [scnM], by show l.length ≤ 100; omega⟩) hA⟩))
theorem n_scan0 (ho : o.op = .call { callee := .value (.func 19), args := #[.const (.slice none 0 0)], argTypes := #[29] }) (hk0 : L.getD k (9, 0) = (0, 0)) (h1 : o.dst = some (DD d k)) (h2 : o.after.toList.all (fun e => decide (e.on < k)) = true) (h3 : o.guard = none) : OpOk Tryz.prog (TN A B L) (DD d) Base k o :=
  op_mk h1 h2 (.inl h3) (fun a w K Q _ _ hk => wp_func ho (enter_of Tryz.func19 (by kernel_rfl) (by kernel_rfl)) (by
    rw [map1]
    refine (scanL_any w none 0 0 [] (fun k => B ≤ k) (RowT.nil _ _) (fun _ => ⟨rfl, rfl⟩) (fun y hy => by cases hy) (fun o ho => by cases ho)).mono ?_
    rintro e w' ⟨rfl, x, hA⟩
    exact ⟨_, rfl, hk _ _ (by unfold TN; rw [hk0]; exact ⟨_, _, _, _, _, _, _, rfl, x, by simp [scnM], by simp [scnM]⟩) hA⟩))
theorem n_bi {parts : Array (Nat × Operand)} (x : Bi) (ho : o.op = .build 54 parts) (hp : ∀ a : Act, Tryz.prog.built 54 (parts.map fun (i, x) => (i, a.eval x)).toList = some #[.int .i64 x.h, .bool x.l, .int .u32 x.b]) (hb : 0 ≤ x.b ∧ x.b < 4294967296) (hk0 : L.getD k (9, 0) = (1, 0)) (h1 : o.dst = some (DD d k)) (h2 : o.after.toList.all (fun e => decide (e.on < k)) = true) (h3 : o.guard = none) : OpOk Tryz.prog (TN A B L) (DD d) Base k o :=
  op_mk h1 h2 (.inl h3) (fun a w K Q _ _ hk => wp_val (by unfold execOp; rw [ho]) (run_build w 54 _ _ (hp a)) (hk _ _ (by unfold TN; rw [hk0]; exact ⟨x, rfl, hb⟩) After.rfl))
theorem n_msg {parts : Array (Nat × Operand)} (z q : Int) (ho : o.op = .build 31 parts) (hp : ∀ a : Act, Tryz.prog.built 31 (parts.map fun (i, x) => (i, a.eval x)).toList = some #[.int .i64 z, .slice none 0 0, .int .i64 0, .int .i64 0, .int .i64 q, .slice none 0 0, .slice none 0 0]) (hk0 : L.getD k (9, 0) = (0, 0)) (h1 : o.dst = some (DD d k)) (h2 : o.after.toList.all (fun e => decide (e.on < k)) = true) (h3 : o.guard = none) : OpOk Tryz.prog (TN A B L) (DD d) Base k o :=
  op_mk h1 h2 (.inl h3) (fun a w K Q _ _ hk => wp_val (by unfold execOp; rw [ho]) (run_build w 31 _ _ (hp a)) (hk _ _ (by unfold TN; rw [hk0]; exact gp_nils _ _ _ _ _ _) After.rfl))
theorem n_obs {n : Nat} {parts : Array (Nat × Operand)} (hB : ∀ (a : Act) w, Base a w → B ≤ w.heap.size) (xs : List Operand) (ho : o.op = .buildSlice 29 n parts) (hp : parts.toList = (xs.zipIdx 0).map fun x => (x.2, x.1)) (hx : xs.all (argN L o d 1) = true) (hn : xs.length = n) (h0 : 0 < n) (hn1 : n ≤ 100) (hk0 : L.getD k (9, 0) = (2, n)) (h1 : o.dst = some (DD d k)) (h2 : o.after.toList.all (fun e => decide (e.on < k)) = true) (h3 : o.guard = none) : OpOk Tryz.prog (TN A B L) (DD d) Base k o :=
  op_mk h1 h2 (.inl h3) (fun a w K Q hd hb hk => by
    obtain ⟨v, w', hr, hv, hA⟩ := nm_obs (hB a w hb) (xs.map a.eval) n (by rw [List.length_map]; exact hn) h0 hn1 _ (parts_at a parts xs hp) (fun x hx' => by obtain ⟨_, h⟩ := argsN_all hx hd x hx'; exact h)
    exact wp_val (by unfold execOp; rw [ho]) hr (hk _ _ (by unfold TN; rw [hk0]; exact hv) hA))
theorem nl_wp {n : Nat} {parts : Array (Nat × Operand)} (xs : List Operand) (ho : o.op = .buildSlice 22 n parts) (hp : parts.toList = (xs.zipIdx 0).map fun x => (x.2, x.1)) (hx : xs.all (argN L o d 0) = true) (hn : xs.length = n) (h0 : 0 < n) (hn1 : n ≤ 100) {C : Nat} {a : Act} {w : World} {K : Act → World → Prop} {Q : Exit → Act → World → Prop} (hd : ∀ i, wait o i = true → TN A B L i (a.tmps.getD (DD d i) undef) w) (hC : C ≤ w.heap.size) (hk : ∀ v w', Lp C (fun k => B ≤ k ∧ Far v k) w' v n → After w w' → K (a.put o.dst v) w') : Oper.wp Tryz.prog o a w K Q := by
  obtain ⟨v, w', hr, hv, hA⟩ := nm_list (P := fun k => B ≤ k) hC (xs.map a.eval) n (by rw [List.length_map]; exact hn) h0 hn1 _ (parts_at a parts xs hp) (fun x hx' => by obtain ⟨_, h⟩ := argsN_all hx hd x hx'; exact h)
  exact wp_val (by unfold execOp; rw [ho]) hr (hk _ _ hv hA)
theorem Lp.mono {C : Nat} {P T : Nat → Prop} {w : World} {v : Value} {n : Nat} (h : Lp C P w v n) (ht : ∀ k, P k → T k) : Lp C T w v n := by
  obtain ⟨vs, h1, h2, h3⟩ := h
  exact ⟨vs, h1, fun x hx => (h2 x hx).mono (fun k hk _ => ht k hk), h3⟩
theorem n_list {n : Nat} {parts : Array (Nat × Operand)} (hB : ∀ (a : Act) w, Base a w → B ≤ w.heap.size) (xs : List Operand) (ho : o.op = .buildSlice 22 n parts) (hp : parts.toList = (xs.zipIdx 0).map fun x => (x.2, x.1)) (hx : xs.all (argN L o d 0) = true) (hn : xs.length = n) (h0 : 0 < n) (hn1 : n ≤ 100) (hk0 : L.getD k (9, 0) = (3, n)) (h1 : o.dst = some (DD d k)) (h2 : o.after.toList.all (fun e => decide (e.on < k)) = true) (h3 : o.guard = none) : OpOk Tryz.prog (TN A B L) (DD d) Base k o :=
  op_mk h1 h2 (.inl h3) (fun a w _K _Q hd hb hk => nl_wp xs ho hp hx hn h0 hn1 hd (hB a w hb) (fun v w' hv hA => hk _ _ (by unfold TN; rw [hk0]; exact hv.mono (fun k hk => hk.1)) hA))
end
/-- The list, as it is handed on. -/
theorem Lp.lst {A : Nat} {P : Nat → Prop} {w : World} {g n cap : Nat} (h : Lp A P w (.slice (some ⟨g, 0, none⟩) n cap) n) : ∃ l : List Msg, l.length = n ∧ LstM w (Low w.heap.size) (some ⟨g, 0, none⟩) l := by
  obtain ⟨vs, h1, h2, own⟩ := h
  have hgl : g < w.heap.size := (own.lt g rfl).2
  have each : ∀ i, i < n → ∃ M : Msg, ∃ b off sa sc oa oc ba bc, some (⟨g, 0, none⟩ : Addr) = some ⟨b, off, none⟩ ∧ Low w.heap.size b ∧ b < w.heap.size ∧ (w.cell? ⟨b, off + i * 7, none⟩ = some (.int .i64 M.kind) ∧ w.cell? ⟨b, off + i * 7 + 1, none⟩ = some (.slice sa M.sys.length sc) ∧ w.cell? ⟨b, off + i * 7 + 2, none⟩ = some (.int .i64 M.config) ∧ w.cell? ⟨b, off + i * 7 + 3, none⟩ = some (.int .i64 M.result) ∧ w.cell? ⟨b, off + i * 7 + 4, none⟩ = some (.int .i64 M.reason) ∧ w.cell? ⟨b, off + i * 7 + 5, none⟩ = some (.slice oa M.objs.length oc) ∧ w.cell? ⟨b, off + i * 7 + 6, none⟩ = some (.slice ba M.obs.length bc)) ∧ MsgX w (Low w.heap.size) M sa sc oa oc ba bc ∧ M.objs.length * 24 ≤ 140737488355328 ∧ M.obs.length * 16 ≤ 140737488355328 := by
    intro i hi
    have hx : vs[i] ∈ vs := List.getElem_mem (by omega)
    obtain ⟨M, sa, sc, oa, oc, ba, bc, e, x, l1, l2⟩ := h2 _ hx
    have hc : ∀ j, j < 7 → w.cell? ⟨g, 0 + i * 7 + j, none⟩ = (Msg.val M sa sc oa oc ba bc).cells[j]? := fun j hj => by
      rw [Nat.zero_add, own.cellAt _ (by omega)]
      unfold flatV
      rw [Great.flat_get (by decide : 0 < 7) vs (fun v hv => (h2 v hv).seven.1), show (i * 7 + j) / 7 = i by omega, show (i * 7 + j) % 7 = j by omega, List.getElem?_eq_getElem (by omega : i < vs.length), e]
      rfl
    exact ⟨M, g, 0, sa, sc, oa, oc, ba, bc, rfl, hgl, hgl, ⟨hc 0 (by decide), hc 1 (by decide), hc 2 (by decide), hc 3 (by decide), hc 4 (by decide), hc 5 (by decide), hc 6 (by decide)⟩, x.upto.mono (fun k hk => hk.2), by omega, by omega⟩
  obtain ⟨lm, hll, hq⟩ := list_of n each
  exact ⟨lm, hll, fun i M hM => hq i M hM⟩
theorem LstM.drop {w : World} {P : Nat → Prop} {g off : Nat} {l : List Msg} (h : LstM w P (some ⟨g, off, none⟩) l) (k : Nat) : LstM w P (some ⟨g, off + k * 7, none⟩) (l.drop k) := by
  intro i M hM
  rw [List.getElem?_drop] at hM
  obtain ⟨b, o, sa, sc, oa, oc, ba, bc, e, hp, hb, ⟨c0, c1, c2, c3, c4, c5, c6⟩, x, h1, h2⟩ := h (k + i) M hM
  cases e
  have hq : off + (k + i) * 7 = off + k * 7 + i * 7 := by omega
  rw [hq] at c0 c1 c2 c3 c4 c5 c6
  exact ⟨g, off + k * 7, sa, sc, oa, oc, ba, bc, rfl, hp, hb, ⟨c0, c1, c2, c3, c4, c5, c6⟩, x, h1, h2⟩
theorem LstM.take {w : World} {P : Nat → Prop} {a : Option Addr} {l : List Msg} (h : LstM w P a l) (k : Nat) : LstM w P a (l.take k) := by
  intro i M hM
  refine h i M ?_
  rcases Nat.lt_or_ge i k with hi | hi
  · rw [List.getElem?_take_of_lt hi] at hM; exact hM
  · rw [List.getElem?_eq_none (by rw [List.length_take]; omega)] at hM; cases hM
theorem LstM.low {w w' : World} {a : Option Addr} {l : List Msg} (h : LstM w (Low w.heap.size) a l) (t : After w w') : LstM w' (Low w'.heap.size) a l :=
  (h.but t (fun _ _ t => t)).mono (fun _k hk => Nat.lt_of_lt_of_le hk t.size)
end Go.Proofs.YthcfdoafncbliaaGreat
