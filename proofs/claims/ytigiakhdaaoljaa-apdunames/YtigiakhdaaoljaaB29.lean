/-
  Laid together: NamesK, NamesO.
-/
import Derived.Test.YtigiakhdaaoljaaB28
import Derived.Test.YtigiakhdaaoljaaB21
import Derived.Great.BuildSlice
import Derived.Laws.MakeOwn
/-
  What the slots of ApduNames hold: bytes, lists, messages, lists of messages, whatever they say.
-/
namespace Go.Proofs.Ytigiakhdaaoljaa
open Go.RowKit
set_option maxRecDepth 8000
/-- A block of plain cells: of no messages, of no lists. -/
def Fl (w : World) (k : Nat) : Prop := ∃ cs T f, w.heap[k]? = some (.cells cs T f) ∧ T ≠ 26 ∧ T ≠ 22
theorem Fl.but {S : Nat → Prop} {w w' : World} {k : Nat} (h : Fl w k) (b : But S w w') (hs : ¬ S k) : Fl w' k := by
  obtain ⟨cs, T, f, e, n⟩ := h
  exact ⟨cs, T, f, by rw [b.block k (Array.getElem?_eq_some_iff.1 e).1 hs]; exact e, n⟩
theorem Fl.new {w : World} {cs : Array Value} {T : TypeId} (h : T ≠ 26) (h2 : T ≠ 22) : Fl (w.alloc (.cells cs T)) w.heap.size := ⟨cs, T, _, heap_alloc_new w _, h, h2⟩
/-- Stores into blocks of messages or lists alone. -/
def Hard (w : World) (S : Nat → Prop) : Prop := ∀ k, S k → ¬ Fl w k
theorem hard_none (w : World) : Hard w Non := fun _ t => t.elim
def KBy (w : World) (v : Value) (n : Nat) : Prop := ∃ a c zs, v = .slice a n c ∧ Row w a n zs ∧ (a = none → n = 0 ∧ c = 0) ∧ (∀ y, a = some y → Fl w y.block) ∧ n ≤ 100 ∧ n ≤ c
def KOs (w : World) (v : Value) (n : Nat) : Prop := ∃ a c l, v = .slice a n c ∧ RowT w a n (List.map Ob.t3 l) ∧ (a = none → n = 0 ∧ c = 0) ∧ (∀ y, a = some y → Fl w y.block) ∧ n ≤ 100 ∧ n ≤ c
def KBs (w : World) (v : Value) (n : Nat) : Prop := ∃ a c l, v = .slice a n c ∧ RowT w a n (List.map Bi.t3 l) ∧ (a = none → n = 0 ∧ c = 0) ∧ (∀ y, a = some y → Fl w y.block) ∧ n ≤ 100 ∧ n ≤ c ∧ ∀ o ∈ l, 0 ≤ o.b ∧ o.b < 4294967296
theorem KBy.but {S : Nat → Prop} {w w' : World} {v : Value} {n : Nat} (h : KBy w v n) (b : But S w w') (hs : Hard w S) : KBy w' v n := by
  obtain ⟨a, c, zs, e, r, ha, hf, r2⟩ := h
  exact ⟨a, c, zs, e, r.but b (fun x hx t => hs _ t (hf x hx)), ha, fun y hy => (hf y hy).but b (fun t => hs _ t (hf y hy)), r2⟩
theorem KOs.but {S : Nat → Prop} {w w' : World} {v : Value} {n : Nat} (h : KOs w v n) (b : But S w w') (hs : Hard w S) : KOs w' v n := by
  obtain ⟨a, c, zs, e, r, ha, hf, r2⟩ := h
  exact ⟨a, c, zs, e, r.but b (fun x hx _ t => hs _ t (hf x hx)), ha, fun y hy => (hf y hy).but b (fun t => hs _ t (hf y hy)), r2⟩
theorem KBs.but {S : Nat → Prop} {w w' : World} {v : Value} {n : Nat} (h : KBs w v n) (b : But S w w') (hs : Hard w S) : KBs w' v n := by
  obtain ⟨a, c, zs, e, r, ha, hf, r2⟩ := h
  exact ⟨a, c, zs, e, r.but b (fun x hx _ t => hs _ t (hf x hx)), ha, fun y hy => (hf y hy).but b (fun t => hs _ t (hf y hy)), r2⟩
theorem kby_nil (w : World) : KBy w (.slice none 0 0) 0 := ⟨none, 0, [], rfl, Row.nil _ _, fun _ => ⟨rfl, rfl⟩, (fun y hy => by cases hy), by decide, by decide⟩
theorem kos_nil (w : World) : KOs w (.slice none 0 0) 0 := ⟨none, 0, [], rfl, RowT.nil _ _, fun _ => ⟨rfl, rfl⟩, (fun y hy => by cases hy), by decide, by decide⟩
theorem kbs_nil (w : World) : KBs w (.slice none 0 0) 0 := ⟨none, 0, [], rfl, RowT.nil _ _, fun _ => ⟨rfl, rfl⟩, (fun y hy => by cases hy), by decide, by decide, fun o ho => by cases ho⟩
/-- The cells of a message. -/
def Fit (w : World) (A : Array Value) : Prop := ∃ k s c r q o b, A = #[.int .i64 k, s, .int .i64 c, .int .i64 r, .int .i64 q, o, b] ∧ (∃ n, KBy w s n) ∧ (∃ n, KOs w o n) ∧ ∃ n, KBs w b n
def GM (w : World) (v : Value) : Prop := ∃ A, v = .agg A ∧ Fit w A
theorem GM.but {S : Nat → Prop} {w w' : World} {v : Value} (h : GM w v) (b : But S w w') (hs : Hard w S) : GM w' v := by
  obtain ⟨A, e, k, s, c, r, q, o, u, eA, ⟨n1, h1⟩, ⟨n2, h2⟩, n3, h3⟩ := h
  exact ⟨A, e, k, s, c, r, q, o, u, eA, ⟨n1, h1.but b hs⟩, ⟨n2, h2.but b hs⟩, n3, h3.but b hs⟩
theorem GM.msg {w : World} {v : Value} (h : GM w v) : ∃ M sa sc oa oc ba bc, v = Msg.val M sa sc oa oc ba bc ∧ MsgX w (Fl w) M sa sc oa oc ba bc ∧ M.objs.length ≤ 100 ∧ M.obs.length ≤ 100 := by
  obtain ⟨A, rfl, k, s, c, r, q, o, b, rfl, ⟨n1, a1, c1, zs, rfl, r1, e1, f1, l1, _⟩, ⟨n2, a2, c2, os, rfl, r2, e2, f2, l2, _⟩, n3, a3, c3, bs, rfl, r3, e3, f3, l3, _, hb⟩ := h
  have g1 : zs.length = n1 := r1.1
  have g2 : os.length = n2 := by have := r2.1; rw [List.length_map] at this; exact this
  have g3 : bs.length = n3 := by have := r3.1; rw [List.length_map] at this; exact this
  subst g1 g2 g3
  exact ⟨⟨k, zs, c, r, q, os, bs⟩, a1, c1, a2, c2, a3, c3, rfl, ⟨r1, e1, fun y hy _ => f1 y hy, by dsimp only; omega, r2, e2, fun y hy _ => f2 y hy, r3, e3, fun y hy _ => f3 y hy, hb⟩, l2, l3⟩
theorem GM.seven {w : World} {v : Value} (h : GM w v) : v.cells.size = 7 ∧ ∀ u ∈ v.cells.toList, u.oneCell' = true := by
  obtain ⟨A, rfl, k, s, c, r, q, o, b, rfl, ⟨n1, a1, c1, zs, rfl, _⟩, ⟨n2, a2, c2, os, rfl, _⟩, n3, a3, c3, bs, rfl, _⟩ := h
  refine ⟨rfl, fun u hu => ?_⟩
  simp only [Value.cells, List.mem_cons, List.not_mem_nil, or_false] at hu
  rcases hu with rfl | rfl | rfl | rfl | rfl | rfl | rfl <;> rfl
def flat (vs : List Value) : List Value := vs.flatMap fun v => v.cells.toList
theorem flat_append (vs us : List Value) : flat (vs ++ us) = flat vs ++ flat us := List.flatMap_append
/-- Messages one behind the other, in memory of their own. -/
def LM (B : Nat) (w : World) (v : Value) (n : Nat) : Prop := ∃ vs, vs.length = n ∧ (∀ x ∈ vs, GM w x) ∧ w.ownsRow B 26 7 v n (flat vs)
/-- Lists of bytes, in memory of their own. -/
def LB (B : Nat) (w : World) (v : Value) (n : Nat) : Prop := ∃ vs, vs.length = n ∧ (∀ x ∈ vs, ∃ m, KBy w x m) ∧ w.ownsRow B 22 1 v n vs
theorem LM.after {B : Nat} {w w' : World} {v : Value} {n : Nat} (h : LM B w v n) (b : After w w') : LM B w' v n := by
  obtain ⟨vs, h1, h2, h3⟩ := h
  exact ⟨vs, h1, fun x hx => (h2 x hx).but b (hard_none w), own_after h3 b⟩
theorem LB.after {B : Nat} {w w' : World} {v : Value} {n : Nat} (h : LB B w v n) (b : After w w') : LB B w' v n := by
  obtain ⟨vs, h1, h2, h3⟩ := h
  exact ⟨vs, h1, fun x hx => by obtain ⟨m, hm⟩ := h2 x hx; exact ⟨m, hm.but b (hard_none w)⟩, own_after h3 b⟩
theorem own_hard {B : Nat} {w : World} {T : TypeId} {sz : Nat} {v : Value} {n : Nat} {xs : List Value} (h : w.ownsRow B T sz v n xs) (hT : T = 26 ∨ T = 22) : Hard w (fun k => v.ownBlock = some k) := by
  rintro k hk ⟨cs, T', f, e, n1, n2⟩
  rcases h.2 with ⟨rfl, _⟩ | ⟨g, cap, cur, rfl, _, hg, _⟩
  · cases hk
  · cases hk
    rw [hg] at e
    injection e with e; injection e with _ e2 _
    subst e2
    rcases hT with h | h
    · exact n1 h
    · exact n2 h
theorem flat_length {vs : List Value} (h : ∀ v ∈ vs, v.cells.size = 7) : (flat vs).length = vs.length * 7 := by
  induction vs with
  | nil => rfl
  | cons v r ih =>
    show (v.cells.toList ++ flat r).length = _
    rw [List.length_append, ih (fun u hu => h u (List.mem_cons_of_mem _ hu)), Array.length_toList, h v List.mem_cons_self, List.length_cons]
    omega
theorem Try.info26 : (Try.prog.info? 26).map (fun i => (i.zero, i.size, i.bytes)) = some (some (.agg #[.int .i64 0, .slice none 0 0, .int .i64 0, .int .i64 0, .int .i64 0, .slice none 0 0, .slice none 0 0]), 7, 104) := by kernel_rfl
theorem Try.info22 : (Try.prog.info? 22).map (fun i => (i.zero, i.size, i.bytes)) = some (some (.slice none 0 0), 1, 24) := by kernel_rfl
/-- Some messages more. -/
theorem app_lm {B : Nat} {w : World} {v u : Value} {n m : Nat} (ty : TypeId) (h : LM B w v n) (k : LM B w u m) (hm : 0 < m) (hs : n + m ≤ 1000) (hbase : B ≤ w.heap.size) :
    ∃ v' w', (Builtin.append_ #[43, 43] ty #[v, u]).run Try.prog w = .ok v' w' ∧ LM B w' v' (n + m) ∧ But (fun k => v.ownBlock = some k) w w' := by
  obtain ⟨i0, hi, hz0, hz1, hz2⟩ := info_parts Try.info26
  obtain ⟨vs, h1, h2, h3⟩ := h
  obtain ⟨us, k1, k2, k3⟩ := k
  rcases k3.2 with ⟨_, e0⟩ | ⟨g, cap, cur, rfl, _⟩
  · omega
  · obtain ⟨v', w', hr, p1, p2, _, _⟩ := run_append_own_at (P := Try.prog) w B 43 ty 26 i0 _ 7 104 Try.underlying43 hi hz0 hz1 hz2 rfl (by decide) v n (flat vs) h3 ⟨g, 0, none⟩ m cap (flat us) k3.1 (k3.cells rfl) (fun u hu => by
      obtain ⟨x, hx, hu⟩ := List.mem_flatMap.1 hu
      exact (k2 x hx).seven.2 u hu) (by unfold maxLen; omega) (by omega) hbase
    have hB : But (fun k => v.ownBlock = some k) w w' := But.grown But.rfl p2 (fun k hk _ => hk)
    have hh := own_hard h3 (.inl rfl)
    refine ⟨v', w', hr, ⟨vs ++ us, by rw [List.length_append, h1, k1], fun x hx => ?_, by rw [flat_append]; exact p1⟩, hB⟩
    rcases List.mem_append.1 hx with hx | hx
    · exact (h2 x hx).but hB hh
    · exact (k2 x hx).but hB hh
theorem app_lb {B : Nat} {w : World} {v u : Value} {n m : Nat} (ty : TypeId) (h : LB B w v n) (k : LB B w u m) (hm : 0 < m) (hs : n + m ≤ 1000) (hbase : B ≤ w.heap.size) :
    ∃ v' w', (Builtin.append_ #[47, 47] ty #[v, u]).run Try.prog w = .ok v' w' ∧ LB B w' v' (n + m) ∧ But (fun k => v.ownBlock = some k) w w' := by
  obtain ⟨i0, hi, hz0, hz1, hz2⟩ := info_parts Try.info22
  obtain ⟨vs, h1, h2, h3⟩ := h
  obtain ⟨us, k1, k2, k3⟩ := k
  rcases k3.2 with ⟨_, e0⟩ | ⟨g, cap, cur, rfl, _⟩
  · omega
  · obtain ⟨v', w', hr, p1, p2, _, _⟩ := run_append_own_at (P := Try.prog) w B 47 ty 22 i0 _ 1 24 Try.underlying47 hi hz0 hz1 hz2 rfl (by decide) v n vs h3 ⟨g, 0, none⟩ m cap us k3.1 (k3.cells rfl) (fun u hu => by
      obtain ⟨j, a, c, zs, rfl, _⟩ := k2 u hu
      rfl) (by unfold maxLen; omega) (by omega) hbase
    have hB : But (fun k => v.ownBlock = some k) w w' := But.grown But.rfl p2 (fun k hk _ => hk)
    have hh := own_hard h3 (.inr rfl)
    refine ⟨v', w', hr, ⟨vs ++ us, by rw [List.length_append, h1, k1], fun x hx => ?_, p1⟩, hB⟩
    rcases List.mem_append.1 hx with hx | hx
    · obtain ⟨j, hj⟩ := h2 x hx; exact ⟨j, hj.but hB hh⟩
    · obtain ⟨j, hj⟩ := k2 x hx; exact ⟨j, hj.but hB hh⟩
/-- Messages that are listed. -/
theorem run_lm {B : Nat} {w : World} (hB : B ≤ w.heap.size) (vs : List Value) (n : Nat) (hn : vs.length = n) (h0 : 0 < n) (h1 : n ≤ 100) (parts : Array (Nat × Value)) (hp : parts.toList = (vs.zipIdx 0).map fun x => (x.2, x.1)) (hv : ∀ x ∈ vs, GM w x) :
    ∃ v w', (Instr.buildSlice 43 n parts).run Try.prog w = .ok v w' ∧ LM B w' v n ∧ After w w' := by
  obtain ⟨i0, hi, hz0, hz1, hz2⟩ := info_parts Try.info26
  have hsz : ∀ v ∈ vs, v.cells.size = 7 := fun v hx => (hv v hx).seven.1
  have hr := Go.run_buildSlice (P := Try.prog) w 43 26 n parts (flat vs).toArray i0 _ Try.underlying43 hi hz0 (by rw [hz1]; omega) (by rw [hz1]; omega) (by
    rw [hz1, hp]; exact Great.fill_whole (by decide) vs _ hsz (by simp [hn]))
  have hA : After w (w.alloc (.cells (flat vs).toArray 26)) := After.rfl.alloc _
  exact ⟨_, _, hr, ⟨vs, hn, fun x hx => (hv x hx).but hA (hard_none w), World.ownsRow_lit w (flat vs).toArray n hB (by unfold maxLen; omega) (by rw [List.size_toArray, flat_length hsz, hn])⟩, hA⟩
theorem run_lb {B : Nat} {w : World} (hB : B ≤ w.heap.size) (vs : List Value) (n : Nat) (hn : vs.length = n) (h0 : 0 < n) (h1 : n ≤ 100) (parts : Array (Nat × Value)) (hp : parts.toList = (vs.zipIdx 0).map fun x => (x.2, x.1)) (hv : ∀ x ∈ vs, ∃ m, KBy w x m) :
    ∃ v w', (Instr.buildSlice 47 n parts).run Try.prog w = .ok v w' ∧ LB B w' v n ∧ After w w' := by
  obtain ⟨i0, hi, hz0, hz1, hz2⟩ := info_parts Try.info22
  have hsz : ∀ v ∈ vs, v.cells = #[v] := fun v hx => by obtain ⟨j, a, c, zs, rfl, _⟩ := hv v hx; rfl
  have hr := Go.run_buildSlice (P := Try.prog) w 47 22 n parts vs.toArray i0 _ Try.underlying47 hi hz0 (by rw [hz1]; omega) (by rw [hz1]; omega) (by
    rw [hz1, hp]; exact Great.fill_flat vs _ hsz (by simp [hn]))
  have hA : After w (w.alloc (.cells vs.toArray 22)) := After.rfl.alloc _
  exact ⟨_, _, hr, ⟨vs, hn, fun x hx => by obtain ⟨j, hj⟩ := hv x hx; exact ⟨j, hj.but hA (hard_none w)⟩, World.ownsRow_lit w vs.toArray n hB (by unfold maxLen; omega) (by rw [List.size_toArray, hn, Nat.mul_one])⟩, hA⟩
/-- Objects and numbers that are listed. -/
def KOb (v : Value) : Prop := ∃ o : Ob, v = .agg #[.int .i64 o.h, .int .i64 o.u, .bool o.l]
def KBi (v : Value) : Prop := ∃ o : Bi, v = .agg #[.int .i64 o.h, .bool o.l, .int .u32 o.b] ∧ 0 ≤ o.b ∧ o.b < 4294967296
theorem flat_ob : ∀ {vs : List Value}, (∀ x ∈ vs, KOb x) → ∃ l : List Ob, l.length = vs.length ∧ flat vs = cells3 (l.map Ob.t3)
  | [], _ => ⟨[], rfl, rfl⟩
  | v :: r, h => by
    obtain ⟨l, e1, e2⟩ := flat_ob (vs := r) (fun x hx => h x (List.mem_cons_of_mem _ hx))
    obtain ⟨o, rfl⟩ := h v List.mem_cons_self
    refine ⟨o :: l, by simp [e1], ?_⟩
    show (#[_, _, _] : Array Value).toList ++ flat r = _
    rw [e2]; rfl
theorem flat_bi : ∀ {vs : List Value}, (∀ x ∈ vs, KBi x) → ∃ l : List Bi, l.length = vs.length ∧ flat vs = cells3 (l.map Bi.t3) ∧ ∀ o ∈ l, 0 ≤ o.b ∧ o.b < 4294967296
  | [], _ => ⟨[], rfl, rfl, fun o ho => by cases ho⟩
  | v :: r, h => by
    obtain ⟨l, e1, e2, e3⟩ := flat_bi (vs := r) (fun x hx => h x (List.mem_cons_of_mem _ hx))
    obtain ⟨o, rfl, hb⟩ := h v List.mem_cons_self
    refine ⟨o :: l, by simp [e1], ?_, fun x hx => ?_⟩
    · show (#[_, _, _] : Array Value).toList ++ flat r = _
      rw [e2]; rfl
    · rcases List.mem_cons.1 hx with rfl | hx
      · exact hb
      · exact e3 x hx
theorem kos_new {w : World} (l : List Ob) (n : Nat) (hn : l.length = n) (h1 : n ≤ 100) : KOs (w.alloc (.cells (cells3 (l.map Ob.t3)).toArray 42)) (.slice (some ⟨w.heap.size, 0, none⟩) n n) n := by
  have h := RowT.of (w := w.alloc (.cells (cells3 (l.map Ob.t3)).toArray 42)) (b := w.heap.size) (xs := l.map Ob.t3) (T := 42) (heap_alloc_new w _)
  rw [List.length_map, hn] at h
  exact ⟨_, _, l, rfl, h, (fun e => by cases e), (fun y hy => by cases hy; exact Fl.new (by decide) (by decide)), h1, Nat.le_refl _⟩
theorem kbs_new {w : World} (l : List Bi) (n : Nat) (hn : l.length = n) (h1 : n ≤ 100) (hb : ∀ o ∈ l, 0 ≤ o.b ∧ o.b < 4294967296) : KBs (w.alloc (.cells (cells3 (l.map Bi.t3)).toArray 46)) (.slice (some ⟨w.heap.size, 0, none⟩) n n) n := by
  have h := RowT.of (w := w.alloc (.cells (cells3 (l.map Bi.t3)).toArray 46)) (b := w.heap.size) (xs := l.map Bi.t3) (T := 46) (heap_alloc_new w _)
  rw [List.length_map, hn] at h
  exact ⟨_, _, l, rfl, h, (fun e => by cases e), (fun y hy => by cases hy; exact Fl.new (by decide) (by decide)), h1, Nat.le_refl _, hb⟩
theorem run_os {w : World} (vs : List Value) (n : Nat) (hn : vs.length = n) (h0 : 0 < n) (h1 : n ≤ 100) (parts : Array (Nat × Value)) (hp : parts.toList = (vs.zipIdx 0).map fun x => (x.2, x.1)) (hv : ∀ x ∈ vs, KOb x) :
    ∃ v w', (Instr.buildSlice 23 n parts).run Try.prog w = .ok v w' ∧ KOs w' v n ∧ After w w' := by
  obtain ⟨i0, hi, hz0, hz1, hz2⟩ := info_parts Try.info42
  have hsz : ∀ v ∈ vs, v.cells.size = 3 := fun v hx => by obtain ⟨o, rfl⟩ := hv v hx; rfl
  have hr := Go.run_buildSlice (P := Try.prog) w 23 42 n parts (flat vs).toArray i0 _ Try.underlying23 hi hz0 (by rw [hz1]; omega) (by rw [hz1]; omega) (by
    rw [hz1, hp]; exact Great.fill_whole (by decide) vs _ hsz (by simp [hn]))
  obtain ⟨l, e1, e2⟩ := flat_ob hv
  rw [e2] at hr
  exact ⟨_, _, hr, kos_new l n (by omega) h1, After.rfl.alloc _⟩
theorem run_bs {w : World} (vs : List Value) (n : Nat) (hn : vs.length = n) (h0 : 0 < n) (h1 : n ≤ 100) (parts : Array (Nat × Value)) (hp : parts.toList = (vs.zipIdx 0).map fun x => (x.2, x.1)) (hv : ∀ x ∈ vs, KBi x) :
    ∃ v w', (Instr.buildSlice 24 n parts).run Try.prog w = .ok v w' ∧ KBs w' v n ∧ After w w' := by
  obtain ⟨i0, hi, hz0, hz1, hz2⟩ := info_parts Try.info46
  have hsz : ∀ v ∈ vs, v.cells.size = 3 := fun v hx => by obtain ⟨o, rfl, _⟩ := hv v hx; rfl
  have hr := Go.run_buildSlice (P := Try.prog) w 24 46 n parts (flat vs).toArray i0 _ Try.underlying24 hi hz0 (by rw [hz1]; omega) (by rw [hz1]; omega) (by
    rw [hz1, hp]; exact Great.fill_whole (by decide) vs _ hsz (by simp [hn]))
  obtain ⟨l, e1, e2, e3⟩ := flat_bi hv
  rw [e2] at hr
  exact ⟨_, _, hr, kbs_new l n (by omega) h1 e3, After.rfl.alloc _⟩
theorem make_os (w : World) (n : Nat) (hn : n ≤ 100) : (Instr.makeSlice 23 (.int .i64 (n : Int)) (.int .i64 (n : Int))).run Try.prog w = .ok (.slice (some ⟨w.heap.size, 0, none⟩) n n) (w.alloc (.cells (cells3 ((List.replicate n (⟨0, 0, false⟩ : Ob)).map Ob.t3)).toArray 42)) := by
  obtain ⟨i0, hi, hz0, hz1, hz2⟩ := info_parts Try.info42
  have h := run_makeSlice (P := Try.prog) w 23 42 i0 _ Try.underlying23 hi hz0 .i64 .i64 (n : Int) (n : Int) (by omega) (by omega) (by rw [hz1]; omega) (by rw [hz2]; omega) (by omega)
  rw [Int.toNat_natCast, hz1] at h
  rw [h, List.map_replicate]
  exact congrArg (fun c => Result.ok _ (w.alloc (.cells c 42))) (made3 _ _ _ n)
theorem make_bs (w : World) (n : Nat) (hn : n ≤ 100) : (Instr.makeSlice 24 (.int .i64 (n : Int)) (.int .i64 (n : Int))).run Try.prog w = .ok (.slice (some ⟨w.heap.size, 0, none⟩) n n) (w.alloc (.cells (cells3 ((List.replicate n (⟨0, false, 0⟩ : Bi)).map Bi.t3)).toArray 46)) := by
  obtain ⟨i0, hi, hz0, hz1, hz2⟩ := info_parts Try.info46
  have h := run_makeSlice (P := Try.prog) w 24 46 i0 _ Try.underlying24 hi hz0 .i64 .i64 (n : Int) (n : Int) (by omega) (by omega) (by rw [hz1]; omega) (by rw [hz2]; omega) (by omega)
  rw [Int.toNat_natCast, hz1] at h
  rw [h, List.map_replicate]
  exact congrArg (fun c => Result.ok _ (w.alloc (.cells c 46))) (made3 _ _ _ n)
/-- Bytes that are written out. -/
theorem run_by {w : World} (zs : List Int) (n : Nat) (hn : zs.length = n) (h0 : 0 < n) (h1 : n ≤ 100) (hb : Bs zs) (parts : Array (Nat × Value)) (hp : parts.toList = ((u8s zs).zipIdx 0).map fun x => (x.2, x.1)) :
    ∃ v w', (Instr.buildSlice 22 n parts).run Try.prog w = .ok v w' ∧ KBy w' v n ∧ After w w' := by
  obtain ⟨i0, hi, hz0, hz1, hz2⟩ := info_parts Try.info5
  have hsz : ∀ v ∈ u8s zs, v.cells = #[v] := fun v hx => by obtain ⟨z, _, rfl⟩ := List.mem_map.1 hx; rfl
  have hr := Go.run_buildSlice (P := Try.prog) w 22 5 n parts (u8s zs).toArray i0 _ Try.underlying22 hi hz0 (by rw [hz1]; omega) (by rw [hz1]; omega) (by
    rw [hz1, hp]; exact Great.fill_flat (u8s zs) _ hsz (by simp [hn, u8s_length]))
  exact ⟨_, _, hr, ⟨_, _, zs, rfl, lit_row w zs (u8s zs).toArray n rfl hn hb, (fun e => by cases e), (fun y hy => by cases hy; exact Fl.new (by decide) (by decide)), h1, Nat.le_refl _⟩, After.rfl.alloc _⟩
/-- Cut. -/
theorem RowT.take {w : World} {a : Option Addr} {n : Nat} {xs : List T3} (h : RowT w a n xs) {k : Nat} (hk : k ≤ n) : RowT w a k (xs.take k) :=
  ⟨by rw [List.length_take, h.1]; omega, fun i hi => by
    obtain ⟨b, off, x, e, hl, hx, r⟩ := h.2 i (by omega)
    exact ⟨b, off, x, e, hl, by rw [List.getElem?_take_of_lt hi]; exact hx, r⟩⟩
theorem run_cut22 (w : World) (b off n c k : Nat) (hk : k ≤ n) (hn : n ≤ c) :
    (Instr.sliceAt 22 (.slice (some ⟨b, off, none⟩) n c) none (some (.int .i64 (k : Int))) none).run Try.prog w = .ok (.slice (some ⟨b, off, none⟩) k c) w := by
  have hu : Try.prog.underlying 22 = some (.slice (Try.prog.elem 22)) := by kernel_rfl
  have q1 : (k : Int) ≤ (c : Int) := by omega
  have q2 : (0 : Int) ≤ (k : Int) := by omega
  rw [run_sliceAt_slice _ 22 _ _ _ _ hu]
  simp [go_sem, q1, q2]
theorem run_cut23 (w : World) (b off n c k : Nat) (hk : k ≤ n) (hn : n ≤ c) :
    (Instr.sliceAt 23 (.slice (some ⟨b, off, none⟩) n c) none (some (.int .i64 (k : Int))) none).run Try.prog w = .ok (.slice (some ⟨b, off, none⟩) k c) w := by
  have hu : Try.prog.underlying 23 = some (.slice (Try.prog.elem 23)) := by kernel_rfl
  have q1 : (k : Int) ≤ (c : Int) := by omega
  have q2 : (0 : Int) ≤ (k : Int) := by omega
  rw [run_sliceAt_slice _ 23 _ _ _ _ hu]
  simp [go_sem, q1, q2]
theorem cut_by {w : World} {v : Value} {n k : Nat} (h : KBy w v n) (h0 : 0 < n) (hk : k ≤ n) : ∃ v', (Instr.sliceAt 22 v none (some (.int .i64 (k : Int))) none).run Try.prog w = .ok v' w ∧ KBy w v' k := by
  obtain ⟨a, c, zs, rfl, r, _, hf, h1, h2⟩ := h
  obtain ⟨b, off, _, rfl, _⟩ := r.at h0
  exact ⟨_, run_cut22 w b off n c k hk h2, _, _, zs.take k, rfl, r.take hk, (fun e => by cases e), hf, by omega, by omega⟩
theorem cut_os {w : World} {v : Value} {n k : Nat} (h : KOs w v n) (h0 : 0 < n) (hk : k ≤ n) : ∃ v', (Instr.sliceAt 23 v none (some (.int .i64 (k : Int))) none).run Try.prog w = .ok v' w ∧ KOs w v' k := by
  obtain ⟨a, c, l, rfl, r, _, hf, h1, h2⟩ := h
  obtain ⟨b, off, _, rfl, _⟩ := r.2 0 h0
  exact ⟨_, run_cut23 w b off n c k hk h2, _, _, l.take k, rfl, by rw [List.map_take]; exact r.take hk, (fun e => by cases e), hf, by omega, by omega⟩
end Go.Proofs.Ytigiakhdaaoljaa
/-
  Operations of ApduNames, by what their slots hold.
-/
namespace Go.Proofs.Ytigiakhdaaoljaa
open Go.RowKit
set_option maxRecDepth 8000
/-- What a slot holds: bytes (0), objects (1), numbers (2), an object (3), a number (4), a message (5), messages (6), lists of bytes (7). -/
def Holds (B : Nat) (k : Nat × Nat) (v : Value) (w : World) : Prop :=
  if k.1 = 0 then KBy w v k.2 else if k.1 = 1 then KOs w v k.2 else if k.1 = 2 then KBs w v k.2 else if k.1 = 3 then KOb v else if k.1 = 4 then KBi v else if k.1 = 5 then GM w v else if k.1 = 6 then LM B w v k.2 else LB B w v k.2
theorem Holds.after {B : Nat} {k : Nat × Nat} {v : Value} {w w' : World} (h : Holds B k v w) (b : After w w') : Holds B k v w' := by
  obtain ⟨k, n⟩ := k
  match k with
  | 0 => exact KBy.but (show KBy w v n from h) b (hard_none w)
  | 1 => exact KOs.but (show KOs w v n from h) b (hard_none w)
  | 2 => exact KBs.but (show KBs w v n from h) b (hard_none w)
  | 3 => exact h
  | 4 => exact h
  | 5 => exact GM.but (show GM w v from h) b (hard_none w)
  | 6 => exact LM.after (show LM B w v n from h) b
  | (q + 7) =>
    have e : ∀ W, Holds B (q + 7, n) v W = LB B W v n := fun W => by
      unfold Holds
      rw [if_neg (by dsimp only; omega), if_neg (by dsimp only; omega), if_neg (by dsimp only; omega), if_neg (by dsimp only; omega), if_neg (by dsimp only; omega), if_neg (by dsimp only; omega), if_neg (by dsimp only; omega)]
    rw [e] at h ⊢
    exact h.after b
def DD (d : Nat) (k : Nat) : Nat := d + k
def wait (o : Oper) (i : Nat) : Bool := o.after.toList.any (fun e => e.on == i && Region.binds .any e)
def TT (B : Nat) (L : List (Nat × Nat)) (k : Nat) (v : Value) (w : World) : Prop := Holds B (L.getD k (0, 0)) v w
/-- An operand that holds what is asked. -/
def argOk (L : List (Nat × Nat)) (o : Oper) (d kd : Nat) (x : Operand) : Bool :=
  match x with
  | .tmp s => decide (d ≤ s) && (wait o (s - d) && (L.getD (s - d) (0, 0)).1 == kd)
  | .const (.slice none 0 0) => kd == 0
  | _ => false
def intOk (x : Operand) : Bool :=
  match x with
  | .const (.int .i64 _) => true
  | _ => false
/-- A field of a message. -/
def partOk (L : List (Nat × Nat)) (o : Oper) (d : Nat) (p : Nat × Operand) : Bool :=
  if p.1 = 1 then argOk L o d 0 p.2 else if p.1 = 5 then argOk L o d 1 p.2 else if p.1 = 6 then argOk L o d 2 p.2 else (p.1 == 0 || p.1 == 2 || p.1 == 3 || p.1 == 4) && intOk p.2
def PartFit (w : World) (p : Nat × Value) : Prop := ((p.1 = 0 ∨ p.1 = 2 ∨ p.1 = 3 ∨ p.1 = 4) ∧ ∃ z, p.2 = .int .i64 z) ∨ (p.1 = 1 ∧ ∃ n, KBy w p.2 n) ∨ (p.1 = 5 ∧ ∃ n, KOs w p.2 n) ∨ (p.1 = 6 ∧ ∃ n, KBs w p.2 n)
theorem fill_fit {w : World} : ∀ (parts : List (Nat × Value)) (A : Array Value), (∀ p ∈ parts, PartFit w p) → Fit w A → ∃ A', Instr.fill ((#[(0, 1), (1, 1), (2, 1), (3, 1), (4, 1), (5, 1), (6, 1)] : Array (Nat × Nat))[·]?) A parts = some A' ∧ Fit w A'
  | [], A, _, h => ⟨A, rfl, h⟩
  | p :: r, A, hp, h => by
    obtain ⟨i, v⟩ := p
    have hr := fun q hq => hp q (List.mem_cons_of_mem _ hq)
    obtain ⟨k, s, c, re, q, o, b, rfl, h1, h2, h3⟩ := h
    rcases hp _ List.mem_cons_self with ⟨hi, z, rfl⟩ | ⟨hi, n, hv⟩ | ⟨hi, n, hv⟩ | ⟨hi, n, hv⟩
    · rcases hi with rfl | rfl | rfl | rfl
      · exact fill_fit r #[.int .i64 z, s, .int .i64 c, .int .i64 re, .int .i64 q, o, b] hr ⟨_, _, _, _, _, _, _, rfl, h1, h2, h3⟩
      · exact fill_fit r #[.int .i64 k, s, .int .i64 z, .int .i64 re, .int .i64 q, o, b] hr ⟨_, _, _, _, _, _, _, rfl, h1, h2, h3⟩
      · exact fill_fit r #[.int .i64 k, s, .int .i64 c, .int .i64 z, .int .i64 q, o, b] hr ⟨_, _, _, _, _, _, _, rfl, h1, h2, h3⟩
      · exact fill_fit r #[.int .i64 k, s, .int .i64 c, .int .i64 re, .int .i64 z, o, b] hr ⟨_, _, _, _, _, _, _, rfl, h1, h2, h3⟩
    · obtain rfl : i = 1 := hi
      have hv' := hv
      obtain ⟨a, cc, zs, e, _⟩ := hv'
      obtain rfl : v = .slice a n cc := e
      exact fill_fit r #[.int .i64 k, .slice a n cc, .int .i64 c, .int .i64 re, .int .i64 q, o, b] hr ⟨_, _, _, _, _, _, _, rfl, ⟨n, hv⟩, h2, h3⟩
    · obtain rfl : i = 5 := hi
      have hv' := hv
      obtain ⟨a, cc, zs, e, _⟩ := hv'
      obtain rfl : v = .slice a n cc := e
      exact fill_fit r #[.int .i64 k, s, .int .i64 c, .int .i64 re, .int .i64 q, .slice a n cc, b] hr ⟨_, _, _, _, _, _, _, rfl, h1, ⟨n, hv⟩, h3⟩
    · obtain rfl : i = 6 := hi
      have hv' := hv
      obtain ⟨a, cc, zs, e, _⟩ := hv'
      obtain rfl : v = .slice a n cc := e
      exact fill_fit r #[.int .i64 k, s, .int .i64 c, .int .i64 re, .int .i64 q, o, .slice a n cc] hr ⟨_, _, _, _, _, _, _, rfl, h1, h2, n, hv⟩
theorem built26 (parts : List (Nat × Value)) : Try.prog.built 26 parts = Instr.fill ((#[(0, 1), (1, 1), (2, 1), (3, 1), (4, 1), (5, 1), (6, 1)] : Array (Nat × Nat))[·]?) #[.int .i64 0, .slice none 0 0, .int .i64 0, .int .i64 0, .int .i64 0, .slice none 0 0, .slice none 0 0] parts := by kernel_rfl
theorem parts_at (a : Act) (parts : Array (Nat × Operand)) (xs : List Operand) (hp : parts.toList = (xs.zipIdx 0).map fun x => (x.2, x.1)) :
    (parts.map fun (i, x) => (i, a.eval x)).toList = ((xs.map a.eval).zipIdx 0).map fun x => (x.2, x.1) := by
  rw [Array.toList_map, hp, List.zipIdx_map, List.map_map, List.map_map]
  rfl
section
variable {o : Oper} {a : Act} {w : World} {K : Act → World → Prop} {Q : Exit → Act → World → Prop}
theorem wp_move {x : Operand} (ho : o.op = .move x) (h : K (a.put o.dst (a.eval x)) w) : Oper.wp Try.prog o a w K Q := by
  unfold Oper.wp execOp
  simp only [ho]
  exact h
theorem wp_assign {x : Operand} (ho : o.op = .assign x) (h : K (a.put o.dst (a.eval x)) w) : Oper.wp Try.prog o a w K Q := by
  unfold Oper.wp execOp
  simp only [ho]
  exact h
theorem wp_val {r : Sem Value} {v : Value} {w' : World} (he : (execOp a.eval o) = (do pure (.value (← r)))) (hr : r.run Try.prog w = .ok v w') (h : K (a.put o.dst v) w') : Oper.wp Try.prog o a w K Q := by
  unfold Oper.wp
  rw [he]
  simp [hr, Oper.upon]
  exact h
theorem wp_list {t len : Nat} {parts : Array (Nat × Operand)} {v : Value} {w' : World} (ho : o.op = .buildSlice t len parts) (hr : (Instr.buildSlice t len (parts.map fun (i, x) => (i, a.eval x))).run Try.prog w = .ok v w') (h : K (a.put o.dst v) w') : Oper.wp Try.prog o a w K Q :=
  wp_val (by unfold execOp; rw [ho]) hr h
theorem wp_built {t : Nat} {parts : Array (Nat × Operand)} {v : Value} {w' : World} (ho : o.op = .build t parts) (hr : (Instr.build t (parts.map fun (i, x) => (i, a.eval x))).run Try.prog w = .ok v w') (h : K (a.put o.dst v) w') : Oper.wp Try.prog o a w K Q :=
  wp_val (by unfold execOp; rw [ho]) hr h
theorem wp_made {t : Nat} {l c : Operand} {v : Value} {w' : World} (ho : o.op = .makeSlice t l c) (hr : (Instr.makeSlice t (a.eval l) (a.eval c)).run Try.prog w = .ok v w') (h : K (a.put o.dst v) w') : Oper.wp Try.prog o a w K Q :=
  wp_val (by unfold execOp; rw [ho]) hr h
theorem wp_cutAt {t : Nat} {x : Operand} {lo hi mx : Option Operand} {v : Value} {w' : World} (ho : o.op = .slice t x lo hi mx) (hr : (Instr.sliceAt t (a.eval x) (lo.map a.eval) (hi.map a.eval) (mx.map a.eval)).run Try.prog w = .ok v w') (h : K (a.put o.dst v) w') : Oper.wp Try.prog o a w K Q :=
  wp_val (by unfold execOp; rw [ho]) hr h
theorem wp_append {s x : Operand} {t : TypeId} {v : Value} {w' : World} (ho : o.op = .call { callee := .builtin .append, args := #[s, x], argTypes := #[t, t] }) (hr : (Builtin.append_ #[t, t] o.type #[a.eval s, a.eval x]).run Try.prog w = .ok v w') (h : K (a.put o.dst v) w') : Oper.wp Try.prog o a w K Q := by
  unfold Oper.wp execOp
  simp only [ho, resolve, invoke, builtin, Sem.run_bind, Sem.run_pure, Result.andThen_ok, List.map_toArray, List.map_cons, List.map_nil, hr]
  exact h
end
section
variable {B d : Nat} {L : List (Nat × Nat)} {Base : Act → World → Prop} {o : Oper} {k : Nat}
theorem argOk_holds {kd : Nat} {x : Operand} {a : Act} {w : World} (h : argOk L o d kd x = true) (hd : ∀ i, wait o i = true → Holds B (L.getD i (0, 0)) (a.tmps.getD (DD d i) undef) w) : ∃ n, Holds B (kd, n) (a.eval x) w := by
  unfold argOk at h
  split at h
  · rename_i s
    simp only [Bool.and_eq_true, decide_eq_true_eq, beq_iff_eq] at h
    obtain ⟨h1, h2, h3⟩ := h
    have := hd _ h2
    unfold DD at this
    rw [show d + (s - d) = s by omega] at this
    refine ⟨(L.getD (s - d) (0, 0)).2, ?_⟩
    rw [← h3]; exact this
  · simp only [beq_iff_eq] at h
    subst h
    exact ⟨0, kby_nil w⟩
  · cases h
theorem ok_mk (h1 : o.dst = some (DD d k)) (h2 : o.after.toList.all (fun e => decide (e.on < k)) = true) (h3 : o.guard = none)
    (h4 : ∀ (a : Act) (w : World) (K : Act → World → Prop) (Q : Exit → Act → World → Prop), (∀ i, wait o i = true → Holds B (L.getD i (0, 0)) (a.tmps.getD (DD d i) undef) w) → Base a w → (∀ v w', Holds B (L.getD k (0, 0)) v w' → After w w' → K (a.put o.dst v) w') → Oper.wp Try.prog o a w K Q) :
    OpOk Try.prog (TT B L) (DD d) Base k o := by
  have hw : ∀ {i}, wait o i = true → ∃ e ∈ o.after, e.on = i ∧ Region.binds .any e = true := fun {i} h => by
    unfold wait at h
    obtain ⟨e, he, hb⟩ := List.any_eq_true.1 h
    have he : e ∈ o.after := Array.mem_toList_iff.1 he
    simp only [Bool.and_eq_true, beq_iff_eq] at hb
    exact ⟨e, he, hb.1, hb.2⟩
  refine ⟨h1, fun e he => ?_, .inl h3, fun a w K Q hd hb hk => h4 a w K Q (fun i hi => ?_) hb hk⟩
  · exact of_decide_eq_true (List.all_eq_true.1 h2 e (Array.mem_toList_iff.2 he))
  · obtain ⟨e, he, hei, hbd⟩ := hw hi
    have := hd e he hbd
    rw [hei] at this
    exact this
theorem ok_base (s : Nat) (ho : o.op = .move (.tmp s)) (hv : ∀ (a : Act) w, Base a w → Holds B (L.getD k (0, 0)) (a.tmps.getD s undef) w) (h1 : o.dst = some (DD d k)) (h2 : o.after.toList.all (fun e => decide (e.on < k)) = true) (h3 : o.guard = none) : OpOk Try.prog (TT B L) (DD d) Base k o :=
  ok_mk h1 h2 h3 (fun a w _K _Q _ hb hk => wp_move ho (hk _ _ (hv a w hb) After.rfl))
theorem ok_msg {parts : Array (Nat × Operand)} (ho : o.op = .build 26 parts) (hp : parts.toList.all (partOk L o d) = true) (hk0 : L.getD k (0, 0) = (5, 0)) (h1 : o.dst = some (DD d k)) (h2 : o.after.toList.all (fun e => decide (e.on < k)) = true) (h3 : o.guard = none) : OpOk Try.prog (TT B L) (DD d) Base k o :=
  ok_mk h1 h2 h3 (fun a w K Q hd _ hk => by
    obtain ⟨A, hA, hF⟩ := fill_fit (w := w) (parts.map fun (i, x) => (i, a.eval x)).toList #[.int .i64 0, .slice none 0 0, .int .i64 0, .int .i64 0, .int .i64 0, .slice none 0 0, .slice none 0 0] (fun p hpm => by
      rw [Array.toList_map] at hpm
      obtain ⟨⟨i, x⟩, hx, rfl⟩ := List.mem_map.1 hpm
      have hq := List.all_eq_true.1 hp _ hx
      unfold partOk at hq
      dsimp only at hq ⊢
      split at hq
      · rename_i e; subst e; exact .inr (.inl ⟨rfl, argOk_holds hq hd⟩)
      · split at hq
        · rename_i e; subst e; exact .inr (.inr (.inl ⟨rfl, argOk_holds hq hd⟩))
        · split at hq
          · rename_i e; subst e; exact .inr (.inr (.inr ⟨rfl, argOk_holds hq hd⟩))
          · simp only [Bool.and_eq_true, Bool.or_eq_true, beq_iff_eq] at hq
            refine .inl ⟨by dsimp only; omega, ?_⟩
            have h9 := hq.2
            unfold intOk at h9
            split at h9
            · rename_i z; exact ⟨z, rfl⟩
            · cases h9) ⟨_, _, _, _, _, _, _, rfl, ⟨0, kby_nil w⟩, ⟨0, kos_nil w⟩, 0, kbs_nil w⟩
    exact wp_built ho (run_build w 26 _ A (by rw [built26]; exact hA)) (hk _ _ (by rw [hk0]; exact ⟨A, rfl, hF⟩) After.rfl))
theorem ok_ob {parts : Array (Nat × Operand)} (x : Ob) (ho : o.op = .build 42 parts) (hp : ∀ a : Act, Try.prog.built 42 (parts.map fun (i, x) => (i, a.eval x)).toList = some #[.int .i64 x.h, .int .i64 x.u, .bool x.l]) (hk0 : L.getD k (0, 0) = (3, 0)) (h1 : o.dst = some (DD d k)) (h2 : o.after.toList.all (fun e => decide (e.on < k)) = true) (h3 : o.guard = none) : OpOk Try.prog (TT B L) (DD d) Base k o :=
  ok_mk h1 h2 h3 (fun a w K Q _ _ hk => wp_built ho (run_build w 42 _ _ (hp a)) (hk _ _ (by rw [hk0]; exact ⟨x, rfl⟩) After.rfl))
theorem ok_bi {parts : Array (Nat × Operand)} (x : Bi) (ho : o.op = .build 46 parts) (hp : ∀ a : Act, Try.prog.built 46 (parts.map fun (i, x) => (i, a.eval x)).toList = some #[.int .i64 x.h, .bool x.l, .int .u32 x.b]) (hb : 0 ≤ x.b ∧ x.b < 4294967296) (hk0 : L.getD k (0, 0) = (4, 0)) (h1 : o.dst = some (DD d k)) (h2 : o.after.toList.all (fun e => decide (e.on < k)) = true) (h3 : o.guard = none) : OpOk Try.prog (TT B L) (DD d) Base k o :=
  ok_mk h1 h2 h3 (fun a w K Q _ _ hk => wp_built ho (run_build w 46 _ _ (hp a)) (hk _ _ (by rw [hk0]; exact ⟨x, rfl, hb⟩) After.rfl))
theorem ok_make23 (n : Nat) (hn : n ≤ 100) (ho : o.op = .makeSlice 23 (.const (.int .i64 n)) (.const (.int .i64 n))) (hk0 : L.getD k (0, 0) = (1, n)) (h1 : o.dst = some (DD d k)) (h2 : o.after.toList.all (fun e => decide (e.on < k)) = true) (h3 : o.guard = none) : OpOk Try.prog (TT B L) (DD d) Base k o :=
  ok_mk h1 h2 h3 (fun _a w _K _Q _ _ hk => wp_made ho (make_os w n hn) (hk _ _ (by rw [hk0]; exact kos_new _ n (by simp) hn) (After.rfl.alloc _)))
theorem ok_make24 (n : Nat) (hn : n ≤ 100) (ho : o.op = .makeSlice 24 (.const (.int .i64 n)) (.const (.int .i64 n))) (hk0 : L.getD k (0, 0) = (2, n)) (h1 : o.dst = some (DD d k)) (h2 : o.after.toList.all (fun e => decide (e.on < k)) = true) (h3 : o.guard = none) : OpOk Try.prog (TT B L) (DD d) Base k o :=
  ok_mk h1 h2 h3 (fun _a w _K _Q _ _ hk => wp_made ho (make_bs w n hn) (hk _ _ (by rw [hk0]; exact kbs_new _ n (by simp) hn (fun x hx => by rw [List.eq_of_mem_replicate hx]; decide)) (After.rfl.alloc _)))
theorem args_all {kd : Nat} {xs : List Operand} {a : Act} {w : World} (h : xs.all (argOk L o d kd) = true) (hd : ∀ i, wait o i = true → Holds B (L.getD i (0, 0)) (a.tmps.getD (DD d i) undef) w) : ∀ v ∈ xs.map a.eval, ∃ n, Holds B (kd, n) v w := by
  intro v hv
  obtain ⟨x, hx, rfl⟩ := List.mem_map.1 hv
  exact argOk_holds (List.all_eq_true.1 h x hx) hd
theorem ok_os {n : Nat} {parts : Array (Nat × Operand)} (xs : List Operand) (ho : o.op = .buildSlice 23 n parts) (hp : parts.toList = (xs.zipIdx 0).map fun x => (x.2, x.1)) (hx : xs.all (argOk L o d 3) = true) (hn : xs.length = n) (h0 : 0 < n) (hn1 : n ≤ 100) (hk0 : L.getD k (0, 0) = (1, n)) (h1 : o.dst = some (DD d k)) (h2 : o.after.toList.all (fun e => decide (e.on < k)) = true) (h3 : o.guard = none) : OpOk Try.prog (TT B L) (DD d) Base k o :=
  ok_mk h1 h2 h3 (fun a w K Q hd _ hk => by
    obtain ⟨v, w', hr, hv, hA⟩ := run_os (w := w) (xs.map a.eval) n (by rw [List.length_map]; exact hn) h0 hn1 _ (parts_at a parts xs hp) (fun x hx' => by obtain ⟨_, h⟩ := args_all hx hd x hx'; exact h)
    exact wp_list ho hr (hk _ _ (by rw [hk0]; exact hv) hA))
theorem ok_bs {n : Nat} {parts : Array (Nat × Operand)} (xs : List Operand) (ho : o.op = .buildSlice 24 n parts) (hp : parts.toList = (xs.zipIdx 0).map fun x => (x.2, x.1)) (hx : xs.all (argOk L o d 4) = true) (hn : xs.length = n) (h0 : 0 < n) (hn1 : n ≤ 100) (hk0 : L.getD k (0, 0) = (2, n)) (h1 : o.dst = some (DD d k)) (h2 : o.after.toList.all (fun e => decide (e.on < k)) = true) (h3 : o.guard = none) : OpOk Try.prog (TT B L) (DD d) Base k o :=
  ok_mk h1 h2 h3 (fun a w K Q hd _ hk => by
    obtain ⟨v, w', hr, hv, hA⟩ := run_bs (w := w) (xs.map a.eval) n (by rw [List.length_map]; exact hn) h0 hn1 _ (parts_at a parts xs hp) (fun x hx' => by obtain ⟨_, h⟩ := args_all hx hd x hx'; exact h)
    exact wp_list ho hr (hk _ _ (by rw [hk0]; exact hv) hA))
theorem list_lm {n : Nat} {parts : Array (Nat × Operand)} (xs : List Operand) (ho : o.op = .buildSlice 43 n parts) (hp : parts.toList = (xs.zipIdx 0).map fun x => (x.2, x.1)) (hx : xs.all (argOk L o d 5) = true) (hn : xs.length = n) (h0 : 0 < n) (hn1 : n ≤ 100) {a : Act} {w : World} {K : Act → World → Prop} {Q : Exit → Act → World → Prop} (hd : ∀ i, wait o i = true → Holds B (L.getD i (0, 0)) (a.tmps.getD (DD d i) undef) w) (hB : B ≤ w.heap.size) (hk : ∀ v w', LM B w' v n → After w w' → K (a.put o.dst v) w') : Oper.wp Try.prog o a w K Q := by
  obtain ⟨v, w', hr, hv, hA⟩ := run_lm (w := w) hB (xs.map a.eval) n (by rw [List.length_map]; exact hn) h0 hn1 _ (parts_at a parts xs hp) (fun x hx' => by obtain ⟨_, h⟩ := args_all hx hd x hx'; exact h)
  exact wp_list ho hr (hk _ _ hv hA)
theorem list_lb {n : Nat} {parts : Array (Nat × Operand)} (xs : List Operand) (ho : o.op = .buildSlice 47 n parts) (hp : parts.toList = (xs.zipIdx 0).map fun x => (x.2, x.1)) (hx : xs.all (argOk L o d 0) = true) (hn : xs.length = n) (h0 : 0 < n) (hn1 : n ≤ 100) {a : Act} {w : World} {K : Act → World → Prop} {Q : Exit → Act → World → Prop} (hd : ∀ i, wait o i = true → Holds B (L.getD i (0, 0)) (a.tmps.getD (DD d i) undef) w) (hB : B ≤ w.heap.size) (hk : ∀ v w', LB B w' v n → After w w' → K (a.put o.dst v) w') : Oper.wp Try.prog o a w K Q := by
  obtain ⟨v, w', hr, hv, hA⟩ := run_lb (w := w) hB (xs.map a.eval) n (by rw [List.length_map]; exact hn) h0 hn1 _ (parts_at a parts xs hp) (fun x hx' => args_all hx hd x hx')
  exact wp_list ho hr (hk _ _ hv hA)
theorem ok_lm {n : Nat} {parts : Array (Nat × Operand)} (hBb : ∀ (a : Act) w, Base a w → B ≤ w.heap.size) (xs : List Operand) (ho : o.op = .buildSlice 43 n parts) (hp : parts.toList = (xs.zipIdx 0).map fun x => (x.2, x.1)) (hx : xs.all (argOk L o d 5) = true) (hn : xs.length = n) (h0 : 0 < n) (hn1 : n ≤ 100) (hk0 : L.getD k (0, 0) = (6, n)) (h1 : o.dst = some (DD d k)) (h2 : o.after.toList.all (fun e => decide (e.on < k)) = true) (h3 : o.guard = none) : OpOk Try.prog (TT B L) (DD d) Base k o :=
  ok_mk h1 h2 h3 (fun a w _K _Q hd hb hk => list_lm xs ho hp hx hn h0 hn1 hd (hBb a w hb) (fun v w' hv hA => hk _ _ (by rw [hk0]; exact hv) hA))
theorem ok_lb {n : Nat} {parts : Array (Nat × Operand)} (hBb : ∀ (a : Act) w, Base a w → B ≤ w.heap.size) (xs : List Operand) (ho : o.op = .buildSlice 47 n parts) (hp : parts.toList = (xs.zipIdx 0).map fun x => (x.2, x.1)) (hx : xs.all (argOk L o d 0) = true) (hn : xs.length = n) (h0 : 0 < n) (hn1 : n ≤ 100) (hk0 : L.getD k (0, 0) = (7, n)) (h1 : o.dst = some (DD d k)) (h2 : o.after.toList.all (fun e => decide (e.on < k)) = true) (h3 : o.guard = none) : OpOk Try.prog (TT B L) (DD d) Base k o :=
  ok_mk h1 h2 h3 (fun a w _K _Q hd hb hk => list_lb xs ho hp hx hn h0 hn1 hd (hBb a w hb) (fun v w' hv hA => hk _ _ (by rw [hk0]; exact hv) hA))
theorem ok_by {n : Nat} {parts : Array (Nat × Operand)} (zs : List Int) (ho : o.op = .buildSlice 22 n parts) (hp : parts.toList = (zs.zipIdx 0).map fun x => (x.2, Operand.const (Value.int .u8 x.1))) (hn : zs.length = n) (h0 : 0 < n) (hn1 : n ≤ 100) (hb : zs.all (fun z => decide (0 ≤ z) && decide (z ≤ 255)) = true) (hk0 : L.getD k (0, 0) = (0, n)) (h1 : o.dst = some (DD d k)) (h2 : o.after.toList.all (fun e => decide (e.on < k)) = true) (h3 : o.guard = none) : OpOk Try.prog (TT B L) (DD d) Base k o :=
  ok_mk h1 h2 h3 (fun a w K Q _ _ hk => by
    obtain ⟨v, w', hr, hv, hA⟩ := run_by (w := w) zs n hn h0 hn1 (bs_of zs hb) (parts.map fun (i, x) => (i, a.eval x)) (parts_eval a parts .u8 zs hp)
    exact wp_list ho hr (hk _ _ (by rw [hk0]; exact hv) hA))
theorem ok_cut22 (i n m : Nat) (ho : o.op = .slice 22 (.tmp (DD d i)) none (some (.const (.int .i64 (m : Int)))) none) (hi : wait o i = true) (hv : L.getD i (0, 0) = (0, n)) (h0 : 0 < n) (hm : m ≤ n) (hk0 : L.getD k (0, 0) = (0, m)) (h1 : o.dst = some (DD d k)) (h2 : o.after.toList.all (fun e => decide (e.on < k)) = true) (h3 : o.guard = none) : OpOk Try.prog (TT B L) (DD d) Base k o :=
  ok_mk h1 h2 h3 (fun a w K Q hd _ hk => by
    have h := hd i hi
    rw [hv] at h
    obtain ⟨v', hr, hv'⟩ := cut_by (show KBy w (a.tmps.getD (DD d i) undef) n from h) h0 hm
    exact wp_cutAt ho hr (hk _ _ (by rw [hk0]; exact hv') After.rfl))
theorem ok_cut23 (i n m : Nat) (ho : o.op = .slice 23 (.tmp (DD d i)) none (some (.const (.int .i64 (m : Int)))) none) (hi : wait o i = true) (hv : L.getD i (0, 0) = (1, n)) (h0 : 0 < n) (hm : m ≤ n) (hk0 : L.getD k (0, 0) = (1, m)) (h1 : o.dst = some (DD d k)) (h2 : o.after.toList.all (fun e => decide (e.on < k)) = true) (h3 : o.guard = none) : OpOk Try.prog (TT B L) (DD d) Base k o :=
  ok_mk h1 h2 h3 (fun a w K Q hd _ hk => by
    have h := hd i hi
    rw [hv] at h
    obtain ⟨v', hr, hv'⟩ := cut_os (show KOs w (a.tmps.getD (DD d i) undef) n from h) h0 hm
    exact wp_cutAt ho hr (hk _ _ (by rw [hk0]; exact hv') After.rfl))
end
end Go.Proofs.Ytigiakhdaaoljaa
