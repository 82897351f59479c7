/-
  Laid together: RtA, RtB, RtC, RtD, RtE, RtF.
-/
import Derived.Test.YtgapnimicaopcaaGreatRtM
import Derived.Test.YtgapnimicaopcaaGreatRtV
import Derived.Test.YtgapnimicaopcaaGreatIrS
import Derived.Test.YtgapnimicaopcaaGreatBtU
import Derived.Test.YtgapnimicaopcaaGreatLpS
import Derived.Test.YtgapnimicaopcaaGreatB02
import Derived.Test.YtgapnimicaopcaaGreatR2RefFix
/-
  The document's task in memory: what is inside by kind; begun anew.
-/
namespace Go.Proofs.YtgapnimicaopcaaGreat
open Go.RowKit
set_option maxRecDepth 8000
/-- What is inside the document's task, of the blocks of S. -/
def RIn (w : World) (k n : Nat) (S : Nat → Prop) (s : Si) (vm va vs vb : Value) : Prop :=
  (k = 0 ∧ ∀ i, ¬ S i)
  ∨ (k = 1 ∧ ∃ g v, vm = Ptr g ∧ L9.RmX w g (g + 1) n s.l v ∧ ∀ i, S i ↔ i = g ∨ v.ownBlock = some i)
  ∨ (k = 2 ∧ ∃ g v, va = Ptr g ∧ L10.RaX w g (g + 1) n s.l v ∧ ∀ i, S i ↔ i = g ∨ v.ownBlock = some i)
  ∨ (k = 3 ∧ ∃ g, vs = Ptr g ∧ L11.Rs w g n s.o ∧ ∀ i, S i ↔ i = g)
  ∨ (k = 4 ∧ ∃ g v, vb = Ptr g ∧ L12.RbX w g (g + 1) n s.l v ∧ ∀ i, S i ↔ i = g ∨ v.ownBlock = some i)
theorem RIn.but {T : Nat → Prop} {w w' : World} {k n : Nat} {S : Nat → Prop} {s : Si} {vm va vs vb : Value} (x : RIn w k n S s vm va vs vb) (b : But T w w') (hs : ∀ i, S i → ¬ T i) : RIn w' k n S s vm va vs vb := by
  rcases x with h | ⟨h, g, v, e, x, hS⟩ | ⟨h, g, v, e, x, hS⟩ | ⟨h, g, e, x, hS⟩ | ⟨h, g, v, e, x, hS⟩
  · exact .inl h
  · exact .inr (.inl ⟨h, g, v, e, x.butO b (hs g ((hS g).2 (.inl rfl))) (fun k hk => hs k ((hS k).2 (.inr hk))), hS⟩)
  · exact .inr (.inr (.inl ⟨h, g, v, e, x.butO b (hs g ((hS g).2 (.inl rfl))) (fun k hk => hs k ((hS k).2 (.inr hk))), hS⟩))
  · exact .inr (.inr (.inr (.inl ⟨h, g, e, x.but b (hs g ((hS g).2 rfl)), hS⟩)))
  · exact .inr (.inr (.inr (.inr ⟨h, g, v, e, x.but b (hs g ((hS g).2 (.inl rfl))) (fun k hk => hs k ((hS k).2 (.inr hk))), hS⟩)))
theorem RIn.lt {w : World} {k n : Nat} {S : Nat → Prop} {s : Si} {vm va vs vb : Value} (x : RIn w k n S s vm va vs vb) (i : Nat) (hi : S i) : i < w.heap.size := by
  rcases x with h | ⟨h, g, v, e, x, hS⟩ | ⟨h, g, v, e, x, hS⟩ | ⟨h, g, e, x, hS⟩ | ⟨h, g, v, e, x, hS⟩
  · exact absurd hi (h.2 i)
  · rcases (hS i).1 hi with rfl | h1
    · exact blk_lt x.at0
    · exact (own_lt x.own h1).2
  · rcases (hS i).1 hi with rfl | h1
    · exact blk_lt x.at0
    · exact (own_lt x.own h1).2
  · rw [(hS i).1 hi]; exact x.lt
  · rcases (hS i).1 hi with rfl | h1
    · exact blk_lt x.at0
    · exact (own_lt x.own h1).2
/-- The document's task lies at g. -/
structure RkX (w : World) (g q : Nat) (vm va vs vb : Value) (S : Nat → Prop) (c : Cf) (s : Ts) : Prop where
  at0 : w.heap[g]? = some (.cells #[.int .i64 c.k, .int .i64 c.n, .int .i64 c.st, .int .i64 (s.next - 1), Ptr q, vm, va, vs, vb, .bool s.known, .int .i64 s.value] 60 (0, 0))
  lap : L13.RpX w q c.st s.lp
  ins : RIn w c.k c.n S s.ins vm va vs vb
  ok : c.Ok
  ne : g ≠ q
  ng : ¬ S g
  nq : ¬ S q
  lo : 0 ≤ s.next
theorem RkX.lt {w : World} {g q : Nat} {vm va vs vb : Value} {S : Nat → Prop} {c : Cf} {s : Ts} (x : RkX w g q vm va vs vb S c s) : g < w.heap.size := blk_lt x.at0
theorem RkX.but {T : Nat → Prop} {w w' : World} {g q : Nat} {vm va vs vb : Value} {S : Nat → Prop} {c : Cf} {s : Ts} (x : RkX w g q vm va vs vb S c s) (b : But T w w') (hg : ¬ T g) (hq : ¬ T q) (hs : ∀ i, S i → ¬ T i) : RkX w' g q vm va vs vb S c s :=
  { x with at0 := (b.block g (blk_lt x.at0) hg).trans x.at0, lap := x.lap.but b hq, ins := x.ins.but b hs }
theorem RkX.after {w w' : World} {g q : Nat} {vm va vs vb : Value} {S : Nat → Prop} {c : Cf} {s : Ts} (x : RkX w g q vm va vs vb S c s) (a : After w w') : RkX w' g q vm va vs vb S c s := x.but a (fun t => t) (fun t => t) (fun _ _ t => t)
/-- What begins anew: whatever is inside. -/
structure RkB (w : World) (g q : Nat) (vm va vs vb : Value) (c : Cf) (s : Ts) : Prop where
  at0 : w.heap[g]? = some (.cells #[.int .i64 c.k, .int .i64 c.n, .int .i64 c.st, .int .i64 (s.next - 1), Ptr q, vm, va, vs, vb, .bool s.known, .int .i64 s.value] 60 (0, 0))
  lap : L13.RpX w q c.st s.lp
  ok : c.Ok
  ne : g ≠ q
  lo : 0 ≤ s.next
theorem RkB.lt {w : World} {g q : Nat} {vm va vs vb : Value} {c : Cf} {s : Ts} (x : RkB w g q vm va vs vb c s) : g < w.heap.size := blk_lt x.at0
theorem RkX.base {w : World} {g q : Nat} {vm va vs vb : Value} {S : Nat → Prop} {c : Cf} {s : Ts} (x : RkX w g q vm va vs vb S c s) : RkB w g q vm va vs vb c s := ⟨x.at0, x.lap, x.ok, x.ne, x.lo⟩
theorem rmNewE (n : Nat) (W : World) : Calls Tryz.prog 34 #[.int .i64 (n : Int)] W fun e w' => ∃ o E, e = .returned (.tuple #[.pointer o, .int .i64 E]) ∧ After W w' ∧ (L9.May n → o = some ⟨W.heap.size, 0, none⟩ ∧ L9.RmX w' W.heap.size (W.heap.size + 1) n [] (.slice none 0 0)) := by
  by_cases h : L9.May n
  · refine (L9.rmNew_ok W n h).mono ?_
    rintro e w' ⟨rfl, rfl⟩
    exact ⟨_, _, rfl, After.rfl.alloc _, fun _ => ⟨rfl, heap_alloc_new W _, own_nil _ _, Nat.lt_succ_self _, by have := h.1; omega, by have := h.2.1; omega⟩⟩
  · refine (L9.rmNew_no W n h).mono ?_
    rintro e w' ⟨rfl, rfl⟩
    exact ⟨_, _, rfl, After.rfl, fun t => absurd t h⟩
theorem raNewE (n : Nat) (W : World) : Calls Tryz.prog 35 #[.int .i64 (n : Int)] W fun e w' => ∃ o E, e = .returned (.tuple #[.pointer o, .int .i64 E]) ∧ After W w' ∧ (L10.May n → o = some ⟨W.heap.size, 0, none⟩ ∧ L10.RaX w' W.heap.size (W.heap.size + 1) n [] (.slice none 0 0)) := by
  by_cases h : L10.May n
  · refine (L10.raNew_ok W n h).mono ?_
    rintro e w' ⟨rfl, rfl⟩
    exact ⟨_, _, rfl, After.rfl.alloc _, fun _ => ⟨rfl, heap_alloc_new W _, own_nil _ _, Nat.lt_succ_self _, by have := h.1; omega, by have := h.2; omega, Fit.nil⟩⟩
  · refine (L10.raNew_no W n h).mono ?_
    rintro e w' ⟨rfl, rfl⟩
    exact ⟨_, _, rfl, After.rfl, fun t => absurd t h⟩
theorem rsNewE (n : Nat) (W : World) : Calls Tryz.prog 36 #[.int .i64 (n : Int)] W fun e w' => ∃ o E, e = .returned (.tuple #[.pointer o, .int .i64 E]) ∧ After W w' ∧ (L11.May n → o = some ⟨W.heap.size, 0, none⟩ ∧ L11.Rs w' W.heap.size n none) := by
  by_cases h : L11.May n
  · refine (L11.rsNew_ok W n h).mono ?_
    rintro e w' ⟨rfl, rfl⟩
    exact ⟨_, _, rfl, After.rfl.alloc _, fun _ => ⟨rfl, heap_alloc_new W _, h, fun y hy => by cases hy⟩⟩
  · refine (L11.rsNew_no W n h).mono ?_
    rintro e w' ⟨rfl, rfl⟩
    exact ⟨_, _, rfl, After.rfl, fun t => absurd t h⟩
theorem rbNewE (n : Nat) (W : World) : Calls Tryz.prog 37 #[.int .i64 (n : Int)] W fun e w' => ∃ o E, e = .returned (.tuple #[.pointer o, .int .i64 E]) ∧ After W w' ∧ (L12.May n → o = some ⟨W.heap.size, 0, none⟩ ∧ L12.RbX w' W.heap.size (W.heap.size + 1) n [] (.slice none 0 0)) := by
  by_cases h : L12.May n
  · refine (L12.rbNew_ok W n h).mono ?_
    rintro e w' ⟨rfl, rfl⟩
    exact ⟨_, _, rfl, After.rfl.alloc _, fun _ => ⟨rfl, L12.rb_new (Nat.lt_succ_self _) (heap_alloc_new W _) (by have := h.1; omega) (by have := h.2; omega)⟩⟩
  · refine (L12.rbNew_no W n h).mono ?_
    rintro e w' ⟨rfl, rfl⟩
    exact ⟨_, _, rfl, After.rfl, fun t => absurd t h⟩
/-- What was made anew, by kind. -/
theorem RIn.new {w w1 w2 w3 w4 : World} {c : Cf} (ok : c.Ok) {o1 o2 o3 o4 : Option Addr} (a1 : After w w1) (a2 : After w1 w2) (a3 : After w2 w3) (a4 : After w3 w4)
    (h1 : L9.May c.n → o1 = some ⟨w.heap.size, 0, none⟩ ∧ L9.RmX w1 w.heap.size (w.heap.size + 1) c.n [] (.slice none 0 0))
    (h2 : L10.May c.n → o2 = some ⟨w1.heap.size, 0, none⟩ ∧ L10.RaX w2 w1.heap.size (w1.heap.size + 1) c.n [] (.slice none 0 0))
    (h3 : L11.May c.n → o3 = some ⟨w2.heap.size, 0, none⟩ ∧ L11.Rs w3 w2.heap.size c.n none)
    (h4 : L12.May c.n → o4 = some ⟨w3.heap.size, 0, none⟩ ∧ L12.RbX w4 w3.heap.size (w3.heap.size + 1) c.n [] (.slice none 0 0)) :
    ∃ S, RIn w4 c.k c.n S Si.new (.pointer o1) (.pointer o2) (.pointer o3) (.pointer o4) ∧ ∀ i, S i → w.heap.size ≤ i := by
  have z1 := a1.size
  have z2 := a2.size
  have z3 := a3.size
  rcases ok.kind with ⟨h, _⟩ | ⟨h, m1, m2, m3⟩ | ⟨h, m1, m2⟩ | ⟨h, m1, m2⟩ | ⟨h, m1, m2⟩
  · exact ⟨fun _ => False, .inl ⟨h, fun _ t => t⟩, fun _ t => t.elim⟩
  · obtain ⟨rfl, x⟩ := h1 ⟨by omega, by omega, by omega⟩
    exact ⟨fun i => i = w.heap.size, .inr (.inl ⟨h, _, _, rfl, x.afterO ((a2.trans a3).trans a4), fun i => ⟨.inl, fun t => t.elim id (fun t => by cases t)⟩⟩), fun i hi => by subst hi; exact Nat.le_refl _⟩
  · obtain ⟨rfl, x⟩ := h2 ⟨by omega, by omega⟩
    exact ⟨fun i => i = w1.heap.size, .inr (.inr (.inl ⟨h, _, _, rfl, x.afterO (a3.trans a4), fun i => ⟨.inl, fun t => t.elim id (fun t => by cases t)⟩⟩)), fun i hi => by subst hi; exact z1⟩
  · obtain ⟨rfl, x⟩ := h3 ⟨by omega, by omega⟩
    exact ⟨fun i => i = w2.heap.size, .inr (.inr (.inr (.inl ⟨h, _, rfl, x.but a4 (fun t => t), fun i => Iff.rfl⟩))), fun i hi => by subst hi; omega⟩
  · obtain ⟨rfl, x⟩ := h4 ⟨by omega, by omega⟩
    exact ⟨fun i => i = w3.heap.size, .inr (.inr (.inr (.inr ⟨h, _, _, rfl, x, fun i => ⟨.inl, fun t => t.elim id (fun t => by cases t)⟩⟩))), fun i hi => by subst hi; omega⟩
theorem old_blk' {w w' : World} {g : Nat} {o : Obj} (a : After w w') (h : w.heap[g]? = some o) : w'.heap[g]? = some o := (a.block g (blk_lt h) (fun t => t)).trans h
theorem old1 {w w' : World} {g : Nat} {cs : Array Value} {T : TypeId} (h : w.heap[g]? = some (.cells cs T (0, 0))) (a : After w w') (i : Nat) {v : Value} (hi : cs[i]? = some v) : w'.cell? ⟨g, i, none⟩ = some v := blk_cell (old_blk' a h) hi
theorem RkB.fresh {w w4 : World} {g q : Nat} {vm va vs vb : Value} {S' : Nat → Prop} {c : Cf} {s : Ts} {o1 o2 o3 o4 : Option Addr} (x : RkB w g q vm va vs vb c s) (a : After ((w.setCell ⟨g, 9, none⟩ (.bool false)).setCell ⟨g, 10, none⟩ (.int .i64 0)) w4) (i1 : RIn w4 c.k c.n S' Si.new (.pointer o1) (.pointer o2) (.pointer o3) (.pointer o4)) (hS : ∀ i, S' i → w.heap.size ≤ i) :
    RkX ((((w4.setCell ⟨g, 5, none⟩ (.pointer o1)).setCell ⟨g, 6, none⟩ (.pointer o2)).setCell ⟨g, 7, none⟩ (.pointer o3)).setCell ⟨g, 8, none⟩ (.pointer o4)) g q (.pointer o1) (.pointer o2) (.pointer o3) (.pointer o4) S' c s.anew ∧ But (One g) w ((((w4.setCell ⟨g, 5, none⟩ (.pointer o1)).setCell ⟨g, 6, none⟩ (.pointer o2)).setCell ⟨g, 7, none⟩ (.pointer o3)).setCell ⟨g, 8, none⟩ (.pointer o4)) := by
  have bw : But (One g) w ((w.setCell ⟨g, 9, none⟩ (.bool false)).setCell ⟨g, 10, none⟩ (.int .i64 0)) := (but_one w g 9 _).trans (but_one _ g 10 _)
  have b4 : But (One g) w w4 := bw.then a (fun _ _ t => t.elim)
  have b5 : But (One g) w4 ((((w4.setCell ⟨g, 5, none⟩ (.pointer o1)).setCell ⟨g, 6, none⟩ (.pointer o2)).setCell ⟨g, 7, none⟩ (.pointer o3)).setCell ⟨g, 8, none⟩ (.pointer o4)) := (((but_one w4 g 5 _).trans (but_one _ g 6 _)).trans (but_one _ g 7 _)).trans (but_one _ g 8 _)
  have h4 := old_blk' a (blk_put (blk_put x.at0 9 (.bool false)) 10 (.int .i64 0))
  have ng' : ¬ S' g := fun h => by have := hS g h; have := x.lt; omega
  have nq' : ¬ S' q := fun h => by have := hS q h; have := x.lap.lt; omega
  refine ⟨{ at0 := ?_, lap := (x.lap.but b4 (fun e => x.ne e.symm)).but b5 (fun e => x.ne e.symm), ins := i1.but b5 (fun i hi e => by cases e; exact ng' hi), ok := x.ok, ne := x.ne, ng := ng', nq := nq', lo := x.lo }, b4.trans b5⟩
  exact blk_put (blk_put (blk_put (blk_put h4 5 (.pointer o1)) 6 (.pointer o2)) 7 (.pointer o3)) 8 (.pointer o4)
set_option maxHeartbeats 1000000 in
theorem rkAnew {w : World} {g q : Nat} {vm va vs vb : Value} {c : Cf} {s : Ts} (x : RkB w g q vm va vs vb c s) : Calls Tryz.prog 15 #[Ptr g] w fun e w' => e = .returned (.tuple #[]) ∧ ∃ vm' va' vs' vb' S', RkX w' g q vm' va' vs' vb' S' c s.anew ∧ (∀ i, S' i → w.heap.size ≤ i) ∧ But (One g) w w' := by
  have c9 := blk_cell x.at0 (i := 9) rfl
  have s9 := blk_soft x.at0 9
  have s10 := blk_soft x.at0 10
  have b0 := blk_put (blk_put x.at0 9 (.bool false)) 10 (.int .i64 0)
  have c1 := blk_cell b0 (i := 1) rfl
  have bw : But (One g) w ((w.setCell ⟨g, 9, none⟩ (.bool false)).setCell ⟨g, 10, none⟩ (.int .i64 0)) := (but_one w g 9 _).trans (but_one _ g 10 _)
  have c10 := blk_cell (blk_put x.at0 9 (.bool false)) (i := 10) rfl
  have s10' := blk_soft (blk_put x.at0 9 (.bool false)) 10
  have HX := hideIt x
  have HB := hideIt (And.intro b0 bw)
  clear x b0 bw s10
  obtain ⟨N, hN⟩ : ∃ N : Nat, c.n = N := ⟨_, rfl⟩
  rw [hN] at c1
  have HN := hideIt hN
  have H1 := hideIt (rmNewE N)
  have H2 := hideIt (raNewE N)
  have H3 := hideIt (rsNewE N)
  have H4 := hideIt (rbNewE N)
  clear hN
  go_enter Tryz.func15, Tryz.ntmps15
  go_wp2_with fail
  refine (H1.out _).mono ?_
  rintro e w1 ⟨o1, E1, rfl, h1⟩
  have d1 := old1 HB.out.1 h1.1 1 rfl
  rw [HN.out] at d1
  have P1 := hideIt h1
  clear h1 H1 c1 c9 c10 s9 s10'
  go_wp2_with fail
  refine (H2.out _).mono ?_
  rintro e w2 ⟨o2, E2, rfl, h2⟩
  have d2 := old1 HB.out.1 (P1.out.1.trans h2.1) 1 rfl
  rw [HN.out] at d2
  have P2 := hideIt h2
  clear h2 H2 d1
  go_wp2_with fail
  refine (H3.out _).mono ?_
  rintro e w3 ⟨o3, E3, rfl, h3⟩
  have d3 := old1 HB.out.1 ((P1.out.1.trans P2.out.1).trans h3.1) 1 rfl
  rw [HN.out] at d3
  have P3 := hideIt h3
  clear h3 H3 d2
  go_wp2_with fail
  refine (H4.out _).mono ?_
  rintro e w4 ⟨o4, E4, rfl, h4⟩
  have P4 := hideIt h4
  have aw := ((P1.out.1.trans P2.out.1).trans P3.out.1).trans h4.1
  have b4 := old_blk' aw HB.out.1
  have t5 := blk_soft b4 5
  have t6 := blk_soft (blk_put b4 5 (.pointer o1)) 6
  have t7 := blk_soft (blk_put (blk_put b4 5 (.pointer o1)) 6 (.pointer o2)) 7
  have t8 := blk_soft (blk_put (blk_put (blk_put b4 5 (.pointer o1)) 6 (.pointer o2)) 7 (.pointer o3)) 8
  have f5 := blk_cell b4 (i := 5) rfl
  have f6 := blk_cell (blk_put b4 5 (.pointer o1)) (i := 6) rfl
  have f7 := blk_cell (blk_put (blk_put b4 5 (.pointer o1)) 6 (.pointer o2)) (i := 7) rfl
  have f8 := blk_cell (blk_put (blk_put (blk_put b4 5 (.pointer o1)) 6 (.pointer o2)) 7 (.pointer o3)) (i := 8) rfl
  have HA := hideIt (And.intro aw b4)
  clear aw b4 h4 H4 d3
  go_wp2_with fail
  obtain ⟨S', i1, hS⟩ := RIn.new HX.out.ok P1.out.1 P2.out.1 P3.out.1 P4.out.1 (HN.out ▸ P1.out.2) (HN.out ▸ P2.out.2) (HN.out ▸ P3.out.2) (HN.out ▸ P4.out.2)
  have hS' : ∀ i, S' i → w.heap.size ≤ i := fun i hi => Nat.le_trans HB.out.2.size (hS i hi)
  have hr := HX.out.fresh HA.out.1 i1 hS'
  exact bodyPost_end (v := .tuple #[]) (by simp [results, Tryz.results15, go_sem]) rfl ⟨rfl, _, _, _, _, S', hr.1, hS', hr.2⟩
end Go.Proofs.YtgapnimicaopcaaGreat
/-
  The document's task: what a number makes.
-/
namespace Go.Proofs.YtgapnimicaopcaaGreat
open Go.RowKit
set_option maxRecDepth 8000
theorem RkX.took {w w3 : World} {g q : Nat} {vm va vs vb : Value} {S S' : Nat → Prop} {c : Cf} {s : Ts} {i' : Si} {R : Int} {K : Bool} (x : RkX w g q vm va vs vb S c s) (h3 : w3.heap[g]? = some (.cells #[.int .i64 c.k, .int .i64 c.n, .int .i64 c.st, .int .i64 (s.next - 1), Ptr q, vm, va, vs, vb, .bool K, .int .i64 R] 60 (0, 0))) (b : But (fun i => i = g ∨ S i) w w3) (i3 : RIn w3 c.k c.n S' i' vm va vs vb) (hS : ∀ i, S' i → S i ∨ w.heap.size ≤ i) : RkX w3 g q vm va vs vb S' c ⟨i', s.lp, R, K, s.next⟩ :=
  { at0 := h3, lap := x.lap.but b (fun t => t.elim (fun e => x.ne e.symm) x.nq), ins := i3, ok := x.ok, ne := x.ne
    ng := fun h => (hS g h).elim x.ng (fun t => by have := x.lt; omega)
    nq := fun h => (hS q h).elim x.nq (fun t => by have := x.lap.lt; omega), lo := x.lo }
/-- What a number made. -/
def Numd (w : World) (g q : Nat) (vm va vs vb : Value) (S : Nat → Prop) (c : Cf) (s' : Ts) (w' : World) : Prop := ∃ S', RkX w' g q vm va vs vb S' c s' ∧ (∀ i, S' i → S i ∨ w.heap.size ≤ i) ∧ But (fun i => i = g ∨ S i) w w'
/-- One push of a kind that has a value then: what the walk asks. -/
theorem RkX.push {w w2 : World} {g q : Nat} {vm va vs vb : Value} {S S' : Nat → Prop} {c : Cf} {s : Ts} {i' : Si} {R : Int} (x : RkX w g q vm va vs vb S c s) (b1 : But S (w.setCell ⟨g, 9, none⟩ (.bool true)) w2) (i2 : RIn w2 c.k c.n S' i' vm va vs vb) (hS : ∀ i, S' i → S i ∨ w.heap.size ≤ i) : Numd w g q vm va vs vb S c ⟨i', s.lp, R, true, s.next⟩ (w2.setCell ⟨g, 10, none⟩ (.int .i64 R)) := by
  have h1 := blk_put x.at0 9 (.bool true)
  have h2 := (b1.block g (blk_lt h1) x.ng).trans h1
  have hx : ¬ S' g := fun h => (hS g h).elim x.ng (fun t => by have := x.lt; omega)
  have b : But (fun i => i = g ∨ S i) w (w2.setCell ⟨g, 10, none⟩ (.int .i64 R)) := (((but_one w g 9 (.bool true)).mono (fun i _ t => .inl t)).then b1 (fun i _ t => .inr t)).then (but_one w2 g 10 (.int .i64 R)) (fun i _ t => .inl t)
  exact ⟨S', x.took (blk_put h2 10 (.int .i64 R)) b (i2.but (but_one w2 g 10 (.int .i64 R)) (fun i hi e => by cases e; exact hx hi)) hS, hS, b⟩
theorem rkNum0 {w : World} {g q : Nat} {vm va vs vb : Value} {S : Nat → Prop} {c : Cf} {s : Ts} (x : RkX w g q vm va vs vb S c s) (hk : c.k = 0) (t y : Int) (b : Bool) : Calls Tryz.prog 25 #[Ptr g, .int .i64 t, .int .i64 y, .bool b] w fun e w' => e = .returned (.tuple #[]) ∧ Numd w g q vm va vs vb S c (s.take c t y) w' := by
  have hs : s.take c t y = ⟨s.ins, s.lp, y, true, s.next⟩ := by unfold Ts.take Si.push Si.val Si.has; rw [hk]; rfl
  rw [hs]
  have c9 := blk_cell x.at0 (i := 9) rfl
  have s9 := blk_soft x.at0 9
  have b1 := blk_put x.at0 9 (.bool true)
  have c0 : (w.setCell ⟨g, 9, none⟩ (.bool true)).cell? ⟨g, 0, none⟩ = some (.int .i64 0) := by have h := blk_cell b1 (i := 0) rfl; rw [hk] at h; exact h
  have c10 := blk_cell b1 (i := 10) rfl
  have s10 := blk_soft b1 10
  have hr := x.push (But.rfl (w := w.setCell ⟨g, 9, none⟩ (.bool true))) (x.ins.but (but_one w g 9 (.bool true)) (fun i hi e => by cases e; exact x.ng hi)) new_in (R := y)
  have HR := hideIt hr
  clear hr x hs hk b1
  go_enter Tryz.func25, Tryz.ntmps25
  go_wp2_with fail
  exact bodyPost_end (v := .tuple #[]) (by simp [results, Tryz.results25, go_sem]) rfl ⟨rfl, HR.out⟩
theorem nxt_len (l : List Int) (t : Int) : (L12.nxt l t).length ≤ l.length + 1 := by
  unfold L12.nxt
  split <;> simp
set_option maxHeartbeats 1000000 in
theorem rkNum1 {w : World} {g q : Nat} {vm va vs vb : Value} {S : Nat → Prop} {c : Cf} {s : Ts} (x : RkX w g q vm va vs vb S c s) (hk : c.k = 1) {gm : Nat} {v : Value} (hm : vm = Ptr gm) (xm : L9.RmX w gm (gm + 1) c.n s.ins.l v) (hS : ∀ i, S i ↔ i = gm ∨ v.ownBlock = some i) (hl : s.ins.l.length < 17592186044416) (t y : Int) (b : Bool) : Calls Tryz.prog 25 #[Ptr g, .int .i64 t, .int .i64 y, .bool b] w fun e w' => e = .returned (.tuple #[]) ∧ Numd w g q vm va vs vb S c (s.take c t y) w' := by
  subst hm
  have hs : s.take c t y = ⟨⟨s.ins.l ++ [clampZ y], s.ins.o⟩, s.lp, L9.mid (lastN c.n (s.ins.l ++ [clampZ y])), true, s.next⟩ := by unfold Ts.take Si.push Si.val Si.has; rw [hk]; rfl
  rw [hs]
  have ngm : gm ≠ g := fun e => x.ng ((hS g).2 (.inl e.symm))
  have ngv : v.ownBlock ≠ some g := fun e => x.ng ((hS g).2 (.inr e))
  have x1 := xm.butO (but_one w g 9 (.bool true)) (fun e => ngm e) (fun k hk e => ngv (by have : k = g := e; rw [← this]; exact hk))
  have hz : (w.setCell ⟨g, 9, none⟩ (.bool true)).heap.size = w.heap.size := by simp
  have hc9 := blk_cell x.at0 (i := 9) rfl
  have s9 := blk_soft x.at0 9
  have b1 := blk_put x.at0 9 (.bool true)
  have c0 : (w.setCell ⟨g, 9, none⟩ (.bool true)).cell? ⟨g, 0, none⟩ = some (.int .i64 1) := by have h := blk_cell b1 (i := 0) rfl; rw [hk] at h; exact h
  have c5 := blk_cell b1 (i := 5) rfl
  obtain ⟨l', hl'⟩ : ∃ l', s.ins.l ++ [clampZ y] = l' := ⟨_, rfl⟩
  obtain ⟨R, hR⟩ : ∃ R, L9.mid (lastN c.n l') = R := ⟨_, rfl⟩
  have H : Hid (Calls Tryz.prog 45 #[Ptr gm, .int .i64 y] (w.setCell ⟨g, 9, none⟩ (.bool true)) fun e w' => e = .returned (.tuple #[.int .i64 R, .int .i64 0]) ∧ But (Own gm v) (w.setCell ⟨g, 9, none⟩ (.bool true)) w' ∧ ∃ u, L9.RmX w' gm (gm + 1) c.n l' u ∧ (u.ownBlock = v.ownBlock ∨ ∀ k, u.ownBlock = some k → (w.setCell ⟨g, 9, none⟩ (.bool true)).heap.size ≤ k)) := by
    rw [← hR, ← hl']
    exact hideIt (L9.rmPushX x1 hl (by rw [hz]; exact blk_lt xm.at0) y)
  rw [hl', hR]
  have HX := hideIt (And.intro x (And.intro hS (And.intro b1 (And.intro hz hk))))
  clear x xm x1 hS hs hk b1 hz ngm ngv hl hl' hR
  go_enter Tryz.func25, Tryz.ntmps25
  go_wp2_with fail
  refine H.out.mono ?_
  rintro e w2 ⟨rfl, hb, hx⟩
  have hb' : But S (w.setCell ⟨g, 9, none⟩ (.bool true)) w2 := hb.mono (fun i _ h => (HX.out.2.1 i).2 h)
  have b2 := (hb'.block g (blk_lt HX.out.2.2.1) HX.out.1.ng).trans HX.out.2.2.1
  have d10 := blk_cell b2 (i := 10) rfl
  have t10 := blk_soft b2 10
  have HY := hideIt (And.intro hb' hx)
  clear hb hb' hx b2 c0 c5 hc9 s9
  go_wp2_with fail
  obtain ⟨x, hS, b1, hz, hk⟩ := HX.out
  obtain ⟨hb', u, xu, hu⟩ := HY.out
  have hr := x.push (R := R) (i' := ⟨l', s.ins.o⟩) (S' := fun i => i = gm ∨ u.ownBlock = some i) hb' (.inr (.inl ⟨hk, gm, u, rfl, xu, fun i => Iff.rfl⟩)) (fun i hi => by
    rcases hi with h | h
    · exact .inl ((hS i).2 (.inl h))
    · rcases hu with e | e
      · rw [e] at h; exact .inl ((hS i).2 (.inr h))
      · have := e i h; exact .inr (by omega))
  exact bodyPost_end (v := .tuple #[]) (by simp [results, Tryz.results25, go_sem]) rfl ⟨rfl, hr⟩
set_option maxHeartbeats 1000000 in
theorem rkNum2 {w : World} {g q : Nat} {vm va vs vb : Value} {S : Nat → Prop} {c : Cf} {s : Ts} (x : RkX w g q vm va vs vb S c s) (hk : c.k = 2) {gm : Nat} {v : Value} (hm : va = Ptr gm) (xm : L10.RaX w gm (gm + 1) c.n s.ins.l v) (hS : ∀ i, S i ↔ i = gm ∨ v.ownBlock = some i) (hl : s.ins.l.length < 17592186044416) (t y : Int) (b : Bool) : Calls Tryz.prog 25 #[Ptr g, .int .i64 t, .int .i64 y, .bool b] w fun e w' => e = .returned (.tuple #[]) ∧ Numd w g q vm va vs vb S c (s.take c t y) w' := by
  subst hm
  have hs : s.take c t y = ⟨⟨s.ins.l ++ [clampZ y], s.ins.o⟩, s.lp, meanZ (lastN c.n (s.ins.l ++ [clampZ y])), true, s.next⟩ := by unfold Ts.take Si.push Si.val Si.has; rw [hk]; rfl
  rw [hs]
  have ngm : gm ≠ g := fun e => x.ng ((hS g).2 (.inl e.symm))
  have ngv : v.ownBlock ≠ some g := fun e => x.ng ((hS g).2 (.inr e))
  have x1 := xm.butO (but_one w g 9 (.bool true)) (fun e => ngm e) (fun k hk e => ngv (by have : k = g := e; rw [← this]; exact hk))
  have hz : (w.setCell ⟨g, 9, none⟩ (.bool true)).heap.size = w.heap.size := by simp
  have hc9 := blk_cell x.at0 (i := 9) rfl
  have s9 := blk_soft x.at0 9
  have b1 := blk_put x.at0 9 (.bool true)
  have c0 : (w.setCell ⟨g, 9, none⟩ (.bool true)).cell? ⟨g, 0, none⟩ = some (.int .i64 2) := by have h := blk_cell b1 (i := 0) rfl; rw [hk] at h; exact h
  have c5 := blk_cell b1 (i := 6) rfl
  obtain ⟨l', hl'⟩ : ∃ l', s.ins.l ++ [clampZ y] = l' := ⟨_, rfl⟩
  obtain ⟨R, hR⟩ : ∃ R, meanZ (lastN c.n l') = R := ⟨_, rfl⟩
  have H : Hid (Calls Tryz.prog 46 #[Ptr gm, .int .i64 y] (w.setCell ⟨g, 9, none⟩ (.bool true)) fun e w' => e = .returned (.tuple #[.int .i64 R, .int .i64 0]) ∧ But (Own gm v) (w.setCell ⟨g, 9, none⟩ (.bool true)) w' ∧ ∃ u, L10.RaX w' gm (gm + 1) c.n l' u ∧ (u.ownBlock = v.ownBlock ∨ ∀ k, u.ownBlock = some k → (w.setCell ⟨g, 9, none⟩ (.bool true)).heap.size ≤ k)) := by
    rw [← hR, ← hl']
    exact hideIt (L10.raPushX x1 hl (by rw [hz]; exact blk_lt xm.at0) y)
  rw [hl', hR]
  have HX := hideIt (And.intro x (And.intro hS (And.intro b1 (And.intro hz hk))))
  clear x xm x1 hS hs hk b1 hz ngm ngv hl hl' hR
  go_enter Tryz.func25, Tryz.ntmps25
  go_wp2_with fail
  refine H.out.mono ?_
  rintro e w2 ⟨rfl, hb, hx⟩
  have hb' : But S (w.setCell ⟨g, 9, none⟩ (.bool true)) w2 := hb.mono (fun i _ h => (HX.out.2.1 i).2 h)
  have b2 := (hb'.block g (blk_lt HX.out.2.2.1) HX.out.1.ng).trans HX.out.2.2.1
  have d10 := blk_cell b2 (i := 10) rfl
  have t10 := blk_soft b2 10
  have HY := hideIt (And.intro hb' hx)
  clear hb hb' hx b2 c0 c5 hc9 s9
  go_wp2_with fail
  obtain ⟨x, hS, b1, hz, hk⟩ := HX.out
  obtain ⟨hb', u, xu, hu⟩ := HY.out
  have hr := x.push (R := R) (i' := ⟨l', s.ins.o⟩) (S' := fun i => i = gm ∨ u.ownBlock = some i) hb' (.inr (.inr (.inl ⟨hk, gm, u, rfl, xu, fun i => Iff.rfl⟩))) (fun i hi => by
    rcases hi with h | h
    · exact .inl ((hS i).2 (.inl h))
    · rcases hu with e | e
      · rw [e] at h; exact .inl ((hS i).2 (.inr h))
      · have := e i h; exact .inr (by omega))
  exact bodyPost_end (v := .tuple #[]) (by simp [results, Tryz.results25, go_sem]) rfl ⟨rfl, hr⟩
set_option maxHeartbeats 1000000 in
theorem rkNum3 {w : World} {g q : Nat} {vm va vs vb : Value} {S : Nat → Prop} {c : Cf} {s : Ts} (x : RkX w g q vm va vs vb S c s) (hk : c.k = 3) {gm : Nat} (hm : vs = Ptr gm) (xm : L11.Rs w gm c.n s.ins.o) (hS : ∀ i, S i ↔ i = gm) (t y : Int) (b : Bool) : Calls Tryz.prog 25 #[Ptr g, .int .i64 t, .int .i64 y, .bool b] w fun e w' => e = .returned (.tuple #[]) ∧ Numd w g q vm va vs vb S c (s.take c t y) w' := by
  subst hm
  have hs : s.take c t y = ⟨⟨s.ins.l, some (L11.nxo c.n s.ins.o (clampZ y))⟩, s.lp, L11.nxo c.n s.ins.o (clampZ y), true, s.next⟩ := by unfold Ts.take Si.push Si.val Si.has; rw [hk]; rfl
  rw [hs]
  have ngm : gm ≠ g := fun e => x.ng ((hS g).2 e.symm)
  have x1 := xm.but (but_one w g 9 (.bool true)) (fun e => ngm e)
  have hz : (w.setCell ⟨g, 9, none⟩ (.bool true)).heap.size = w.heap.size := by simp
  have hc9 := blk_cell x.at0 (i := 9) rfl
  have s9 := blk_soft x.at0 9
  have b1 := blk_put x.at0 9 (.bool true)
  have c0 : (w.setCell ⟨g, 9, none⟩ (.bool true)).cell? ⟨g, 0, none⟩ = some (.int .i64 3) := by have h := blk_cell b1 (i := 0) rfl; rw [hk] at h; exact h
  have c5 := blk_cell b1 (i := 7) rfl
  have H := hideIt (L11.rsPush_any x1 y)
  generalize L11.nxo c.n s.ins.o (clampZ y) = R at *
  have HX := hideIt (And.intro x (And.intro hS (And.intro b1 (And.intro hz hk))))
  clear x xm x1 hS hs hk b1 hz ngm
  go_enter Tryz.func25, Tryz.ntmps25
  go_wp2_with fail
  refine H.out.mono ?_
  rintro e w2 ⟨rfl, hx, hb, hsz⟩
  have hb' : But S (w.setCell ⟨g, 9, none⟩ (.bool true)) w2 := hb.mono (fun i _ h => (HX.out.2.1 i).2 h)
  have b2 := (hb'.block g (blk_lt HX.out.2.2.1) HX.out.1.ng).trans HX.out.2.2.1
  have d10 := blk_cell b2 (i := 10) rfl
  have t10 := blk_soft b2 10
  have HY := hideIt (And.intro hb' hx)
  clear hb hb' hx b2 c0 c5 hc9 s9 hsz
  go_wp2_with fail
  obtain ⟨x, hS, b1, hz, hk⟩ := HX.out
  obtain ⟨hb', xu⟩ := HY.out
  have hr := x.push (R := R) (i' := ⟨s.ins.l, some R⟩) (S' := S) hb' (.inr (.inr (.inr (.inl ⟨hk, gm, rfl, xu, hS⟩)))) new_in
  exact bodyPost_end (v := .tuple #[]) (by simp [results, Tryz.results25, go_sem]) rfl ⟨rfl, hr⟩
theorem RkX.pushB {w w2 : World} {g q : Nat} {vm va vs vb : Value} {S S' : Nat → Prop} {c : Cf} {s : Ts} {i' : Si} {R : Int} {K : Bool} (x : RkX w g q vm va vs vb S c s) (b1 : But S (w.setCell ⟨g, 9, none⟩ (.bool true)) w2) (i2 : RIn w2 c.k c.n S' i' vm va vs vb) (hS : ∀ i, S' i → S i ∨ w.heap.size ≤ i) : Numd w g q vm va vs vb S c ⟨i', s.lp, R, K, s.next⟩ ((w2.setCell ⟨g, 10, none⟩ (.int .i64 R)).setCell ⟨g, 9, none⟩ (.bool K)) := by
  have h1 := blk_put x.at0 9 (.bool true)
  have h2 := (b1.block g (blk_lt h1) x.ng).trans h1
  have hx : ¬ S' g := fun h => (hS g h).elim x.ng (fun t => by have := x.lt; omega)
  have b3 : But (One g) w2 ((w2.setCell ⟨g, 10, none⟩ (.int .i64 R)).setCell ⟨g, 9, none⟩ (.bool K)) := (but_one w2 g 10 (.int .i64 R)).trans (but_one _ g 9 (.bool K))
  have b : But (fun i => i = g ∨ S i) w ((w2.setCell ⟨g, 10, none⟩ (.int .i64 R)).setCell ⟨g, 9, none⟩ (.bool K)) := (((but_one w g 9 (.bool true)).mono (fun i _ t => .inl t)).then b1 (fun i _ t => .inr t)).then b3 (fun i _ t => .inl t)
  exact ⟨S', x.took (blk_put (blk_put h2 10 (.int .i64 R)) 9 (.bool K)) b (i2.but b3 (fun i hi e => by cases e; exact hx hi)) hS, hS, b⟩
set_option maxHeartbeats 1000000 in
theorem rkNum4t {w : World} {g q : Nat} {vm va vs vb : Value} {S : Nat → Prop} {c : Cf} {s : Ts} (x : RkX w g q vm va vs vb S c s) (hk : c.k = 4) {gm : Nat} {v : Value} (hm : vb = Ptr gm) (xm : L12.RbX w gm (gm + 1) c.n s.ins.l v) (hS : ∀ i, S i ↔ i = gm ∨ v.ownBlock = some i) (hl : s.ins.l.length < 17592186044415) (t y : Int) (hy : 0 < y) : Calls Tryz.prog 25 #[Ptr g, .int .i64 t, .int .i64 y, .bool true] w fun e w' => e = .returned (.tuple #[]) ∧ Numd w g q vm va vs vb S c (s.take c t y) w' := by
  subst hm
  have ngm : gm ≠ g := fun e => x.ng ((hS g).2 (.inl e.symm))
  have ngv : v.ownBlock ≠ some g := fun e => x.ng ((hS g).2 (.inr e))
  have x1 := xm.but (but_one w g 9 (.bool true)) (fun e => ngm e) (fun k hk e => ngv (by have : k = g := e; rw [← this]; exact hk))
  have hz : (w.setCell ⟨g, 9, none⟩ (.bool true)).heap.size = w.heap.size := by simp
  have hc9 := blk_cell x.at0 (i := 9) rfl
  have s9 := blk_soft x.at0 9
  have b1 := blk_put x.at0 9 (.bool true)
  have c0 : (w.setCell ⟨g, 9, none⟩ (.bool true)).cell? ⟨g, 0, none⟩ = some (.int .i64 4) := by have h := blk_cell b1 (i := 0) rfl; rw [hk] at h; exact h
  have c5 := blk_cell b1 (i := 8) rfl
  have hs : s.take c t y = ⟨⟨L12.nxt s.ins.l t, s.ins.o⟩, s.lp, L12.rv (lastN c.n (L12.nxt s.ins.l t)), L12.ris (lastN c.n (L12.nxt s.ins.l t)), s.next⟩ := by unfold Ts.take Si.push Si.val Si.has; rw [hk, if_pos hy]; rfl
  rw [hs]
  have H := hideIt (L12.rbBeat_any x1 (by rw [hz]; exact blk_lt xm.at0) (by omega) t)
  have hln : (L12.nxt s.ins.l t).length < 17592186044416 := by have := nxt_len s.ins.l t; omega
  obtain ⟨l', hl'⟩ : ∃ l', L12.nxt s.ins.l t = l' := ⟨_, rfl⟩
  obtain ⟨R, hR⟩ : ∃ R, L12.rv (lastN c.n l') = R := ⟨_, rfl⟩
  obtain ⟨K, hK⟩ : ∃ K, L12.ris (lastN c.n l') = K := ⟨_, rfl⟩
  rw [hl'] at H hln
  rw [hl', hR, hK]
  have HX := hideIt (And.intro x (And.intro hS (And.intro b1 (And.intro hz (And.intro hk (And.intro hln (And.intro hR hK)))))))
  clear x xm x1 hS hs hk b1 hz ngm ngv hl hl' hR hK hln hy
  generalize L12.errT s.ins.l t = E at *
  go_enter Tryz.func25, Tryz.ntmps25
  go_wp2_with fail
  refine H.out.mono ?_
  rintro e w2 ⟨rfl, hb, u, xu, hu⟩
  have hb' : But S (w.setCell ⟨g, 9, none⟩ (.bool true)) w2 := hb.mono (fun i _ h => (HX.out.2.1 i).2 h)
  have b2 := (hb'.block g (blk_lt HX.out.2.2.1) HX.out.1.ng).trans HX.out.2.2.1
  have d8 := blk_cell b2 (i := 8) rfl
  have H2 : Hid (Calls Tryz.prog 49 #[Ptr gm] w2 fun e w' => e = .returned (.tuple #[.int .i64 R, .bool K]) ∧ After w2 w') := by
    rw [← HX.out.2.2.2.2.2.2.1, ← HX.out.2.2.2.2.2.2.2]
    exact hideIt ((L12.rbRate_any xu HX.out.2.2.2.2.2.1).mono (fun e w' h => ⟨h.1, h.2.after⟩))
  have HY := hideIt (And.intro hb' (And.intro b2 (And.intro xu hu)))
  clear hb hb' hu xu b2 c0 c5 hc9 s9
  go_wp2_with fail
  refine H2.out.mono ?_
  rintro e w3 ⟨rfl, a3⟩
  have b3 := old_blk' a3 HY.out.2.1
  have d10 := blk_cell b3 (i := 10) rfl
  have t10 := blk_soft b3 10
  have d9 := blk_cell (blk_put b3 10 (.int .i64 R)) (i := 9) rfl
  have t9 := blk_soft (blk_put b3 10 (.int .i64 R)) 9
  have HZ := hideIt a3
  clear b3 a3 d8 H2
  go_wp2_with fail
  obtain ⟨x, hS, b1, hz, hk, _⟩ := HX.out
  obtain ⟨hb0, _, xu0, hu⟩ := HY.out
  have hb' := hb0.then HZ.out (fun _ _ t => t.elim)
  have xu := xu0.after HZ.out
  have hr := x.pushB (R := R) (K := K) (i' := ⟨l', s.ins.o⟩) (S' := fun i => i = gm ∨ u.ownBlock = some i) hb' (.inr (.inr (.inr (.inr ⟨hk, gm, u, rfl, xu, fun i => Iff.rfl⟩)))) (fun i hi => by
    rcases hi with h | h
    · exact .inl ((hS i).2 (.inl h))
    · rcases hu with e | e
      · rw [e] at h; exact .inl ((hS i).2 (.inr h))
      · have := e i h; exact .inr (by omega))
  exact bodyPost_end (v := .tuple #[]) (by simp [results, Tryz.results25, go_sem]) rfl ⟨rfl, hr⟩

set_option maxHeartbeats 1000000 in
theorem rkNum4f {w : World} {g q : Nat} {vm va vs vb : Value} {S : Nat → Prop} {c : Cf} {s : Ts} (x : RkX w g q vm va vs vb S c s) (hk : c.k = 4) {gm : Nat} {v : Value} (hm : vb = Ptr gm) (xm : L12.RbX w gm (gm + 1) c.n s.ins.l v) (hS : ∀ i, S i ↔ i = gm ∨ v.ownBlock = some i) (hl : s.ins.l.length < 17592186044415) (t y : Int) (hy : (if 0 < y then L12.nxt s.ins.l t else s.ins.l) = s.ins.l) : Calls Tryz.prog 25 #[Ptr g, .int .i64 t, .int .i64 y, .bool false] w fun e w' => e = .returned (.tuple #[]) ∧ Numd w g q vm va vs vb S c (s.take c t y) w' := by
  subst hm
  have ngm : gm ≠ g := fun e => x.ng ((hS g).2 (.inl e.symm))
  have ngv : v.ownBlock ≠ some g := fun e => x.ng ((hS g).2 (.inr e))
  have x1 := xm.but (but_one w g 9 (.bool true)) (fun e => ngm e) (fun k hk e => ngv (by have : k = g := e; rw [← this]; exact hk))
  have hz : (w.setCell ⟨g, 9, none⟩ (.bool true)).heap.size = w.heap.size := by simp
  have hc9 := blk_cell x.at0 (i := 9) rfl
  have s9 := blk_soft x.at0 9
  have b1 := blk_put x.at0 9 (.bool true)
  have c0 : (w.setCell ⟨g, 9, none⟩ (.bool true)).cell? ⟨g, 0, none⟩ = some (.int .i64 4) := by have h := blk_cell b1 (i := 0) rfl; rw [hk] at h; exact h
  have c5 := blk_cell b1 (i := 8) rfl
  have hs : s.take c t y = ⟨⟨s.ins.l, s.ins.o⟩, s.lp, L12.rv (lastN c.n s.ins.l), L12.ris (lastN c.n s.ins.l), s.next⟩ := by unfold Ts.take Si.push Si.val Si.has; rw [hk, hy]; rfl
  rw [hs]
  have hln : s.ins.l.length < 17592186044416 := by omega
  obtain ⟨l', hl'⟩ : ∃ l', s.ins.l = l' := ⟨_, rfl⟩
  obtain ⟨R, hR⟩ : ∃ R, L12.rv (lastN c.n l') = R := ⟨_, rfl⟩
  obtain ⟨K, hK⟩ : ∃ K, L12.ris (lastN c.n l') = K := ⟨_, rfl⟩
  rw [hl'] at x1 hln
  rw [hl', hR, hK]
  have H2 : Hid (Calls Tryz.prog 49 #[Ptr gm] (w.setCell ⟨g, 9, none⟩ (.bool true)) fun e w' => e = .returned (.tuple #[.int .i64 R, .bool K]) ∧ After (w.setCell ⟨g, 9, none⟩ (.bool true)) w') := by
    rw [← hR, ← hK]
    exact hideIt ((L12.rbRate_any x1 hln).mono (fun e w' h => ⟨h.1, h.2.after⟩))
  have HX := hideIt (And.intro x (And.intro hS (And.intro b1 (And.intro hz (And.intro hk x1)))))
  clear x xm x1 hS hs hk b1 hz ngm ngv hl hl' hR hK hln hy
  go_enter Tryz.func25, Tryz.ntmps25
  go_wp2_with fail
  refine H2.out.mono ?_
  rintro e w3 ⟨rfl, a3⟩
  have b3 := old_blk' a3 HX.out.2.2.1
  have d10 := blk_cell b3 (i := 10) rfl
  have t10 := blk_soft b3 10
  have d9 := blk_cell (blk_put b3 10 (.int .i64 R)) (i := 9) rfl
  have t9 := blk_soft (blk_put b3 10 (.int .i64 R)) 9
  have HZ := hideIt a3
  clear b3 a3 c0 c5 hc9 s9 H2
  go_wp2_with fail
  obtain ⟨x, hS, b1, hz, hk, xu0⟩ := HX.out
  have hb' : But S (w.setCell ⟨g, 9, none⟩ (.bool true)) w3 := HZ.out.but
  have xu := xu0.after HZ.out
  have hr := x.pushB (R := R) (K := K) (i' := ⟨l', s.ins.o⟩) (S' := S) hb' (.inr (.inr (.inr (.inr ⟨hk, gm, v, rfl, xu, hS⟩)))) new_in
  exact bodyPost_end (v := .tuple #[]) (by simp [results, Tryz.results25, go_sem]) rfl ⟨rfl, hr⟩
end Go.Proofs.YtgapnimicaopcaaGreat
/-
  The document's task: between the parts of a step.
-/
namespace Go.Proofs.YtgapnimicaopcaaGreat
open Go.RowKit
set_option maxRecDepth 8000
theorem nxt_idem (l : List Int) (t : Int) : L12.nxt (L12.nxt l t) t = L12.nxt l t := by
  by_cases h : L12.ear l ≤ t ∧ t ≤ 2147483647
  · have e : L12.nxt l t = l ++ [t] := by unfold L12.nxt; rw [if_pos h]
    rw [e]
    unfold L12.nxt
    rw [if_neg]
    unfold L12.ear
    rw [if_neg (by simp)]
    simp
    omega
  · have e : L12.nxt l t = l := by unfold L12.nxt; rw [if_neg h]
    rw [e, e]
/-- Once a beat was taken at a tick, none is taken there again. -/
def Bt1 (c : Cf) (t : Int) (s : Ts) (b : Bool) : Prop := b = true → c.k = 4 → L12.nxt s.ins.l t = s.ins.l
theorem Bt1.first (c : Cf) (t : Int) (s : Ts) : Bt1 c t s false := fun h => by cases h
theorem Bt1.lap {c : Cf} {t : Int} {s : Ts} {b : Bool} (h : Bt1 c t s b) (o : Bool) : Bt1 c t (s.lap t o) b := h
theorem take_l {c : Cf} (hk : c.k = 4) (t y : Int) (s : Ts) : (s.take c t y).ins.l = if 0 < y then L12.nxt s.ins.l t else s.ins.l := by
  unfold Ts.take Si.push
  rw [hk]
  rfl
theorem Bt1.take {c : Cf} {t : Int} {s : Ts} {b : Bool} (h : Bt1 c t s b) (y : Int) {b' : Bool} (hb : b' = true → b = true ∨ 0 < y) : Bt1 c t (s.take c t y) b' := by
  intro h1 hk
  rw [take_l hk]
  by_cases hy : 0 < y
  · rw [if_pos hy]; exact nxt_idem _ _
  · rw [if_neg hy]
    rcases hb h1 with h2 | h2
    · exact h h2 hk
    · exact absurd h2 hy
theorem take_len (c : Cf) (t y : Int) (s : Ts) : (s.take c t y).ins.l.length ≤ s.ins.l.length + 1 := by
  unfold Ts.take Si.push
  dsimp only
  split
  · simp
  · split
    · simp
    · split
      · dsimp only
        split
        · exact nxt_len _ _
        · omega
      · omega
theorem hear_len (c : Cf) (t : Int) (s : Ts) (r : Rl) : (s.hear c t r).ins.l.length ≤ s.ins.l.length + 1 := by
  unfold Ts.hear
  split
  · exact take_len c t r.fix (s.lap t false)
  · split
    · exact Nat.le_succ _
    · omega
theorem opn_len (c : Cf) (t : Int) (s : Ts) : (s.opn c t).ins.l.length ≤ s.ins.l.length := by
  unfold Ts.opn
  split
  · exact Nat.zero_le _
  · exact Nat.le_refl _
theorem upto_len (c : Cf) (t : Int) (s : Ts) (l : List Rl) (j : Nat) : (s.upto c t l j).ins.l.length ≤ s.ins.l.length + j := by
  induction j with
  | zero => rw [Ts.upto_zero]; exact opn_len c t s
  | succ j ih =>
    by_cases h : j < l.length
    · rw [Ts.upto_succ c t s (List.getElem?_eq_getElem h)]
      have := hear_len c t (s.upto c t l j) l[j]
      omega
    · have e : s.upto c t l (j + 1) = s.upto c t l j := by
        unfold Ts.upto
        rw [List.take_of_length_le (by omega), List.take_of_length_le (by omega)]
      rw [e]; omega
theorem shut_len (c : Cf) (t : Int) (s : Ts) : (s.shut c t).ins.l.length ≤ s.ins.l.length := by
  unfold Ts.shut
  split
  · exact Nat.zero_le _
  · exact Nat.le_refl _
theorem step_len (c : Cf) (t : Int) (s : Ts) (l : List Rl) : (s.step c t l).ins.l.length ≤ s.ins.l.length + l.length := by
  unfold Ts.step
  have h1 := shut_len c t (s.hears c t l)
  have h2 := upto_len c t s l l.length
  rw [Ts.upto_all] at h2
  omega
theorem at_range (c : Cf) (t : Int) (s : Ts) : s.at_ c t = 0 ∨ s.at_ c t = 1 ∨ s.at_ c t = 2 ∨ s.at_ c t = 3 ∨ s.at_ c t = 4 := by
  unfold Ts.at_ L13.Ls.ans L13.Ls.stands
  split
  · split
    · exact .inr (.inr (.inr (.inl rfl)))
    · split
      · exact .inl rfl
      · split
        · exact .inr (.inr (.inr (.inr rfl)))
        · split
          · exact .inr (.inl rfl)
          · exact .inr (.inr (.inl rfl))
  · exact .inl rfl
/-- A number, whatever the kind. -/
theorem rkNumber {w : World} {g q : Nat} {vm va vs vb : Value} {S : Nat → Prop} {c : Cf} {s : Ts} (x : RkX w g q vm va vs vb S c s) (hl : s.ins.l.length < 17592186044415) (t y : Int) (b : Bool) (hb : c.k = 4 → (b = true ∧ 0 < y) ∨ (b = false ∧ (if 0 < y then L12.nxt s.ins.l t else s.ins.l) = s.ins.l)) : Calls Tryz.prog 25 #[Ptr g, .int .i64 t, .int .i64 y, .bool b] w fun e w' => e = .returned (.tuple #[]) ∧ Numd w g q vm va vs vb S c (s.take c t y) w' := by
  rcases x.ins with ⟨h, _⟩ | ⟨h, gm, v, e, xm, hS⟩ | ⟨h, gm, v, e, xm, hS⟩ | ⟨h, gm, e, xm, hS⟩ | ⟨h, gm, v, e, xm, hS⟩
  · exact rkNum0 x h t y b
  · exact rkNum1 x h e xm hS (by omega) t y b
  · exact rkNum2 x h e xm hS (by omega) t y b
  · exact rkNum3 x h e xm hS t y b
  · rcases hb h with ⟨rfl, hy⟩ | ⟨rfl, hy⟩
    · exact rkNum4t x h e xm hS hl t y hy
    · exact rkNum4f x h e xm hS hl t y hy
/-- How it stands between the parts of a step. -/
def RMid (w1 : World) (g q : Nat) (S : Nat → Prop) (c : Cf) (s : Ts) (w3 : World) : Prop := ∃ vm va vs vb S', RkX w3 g q vm va vs vb S' c s ∧ (∀ i, S' i → S i ∨ w1.heap.size ≤ i) ∧ But (Ta g q S) w1 w3
section
variable {w1 w3 : World} {g q : Nat} {S : Nat → Prop} {c : Cf} {s : Ts}
theorem RMid.after {w4 : World} (h : RMid w1 g q S c s w3) (a : After w3 w4) : RMid w1 g q S c s w4 := by
  obtain ⟨vm, va, vs, vb, S', x, hS, b⟩ := h
  exact ⟨vm, va, vs, vb, S', x.after a, hS, b.then a (fun _ _ e => e.elim)⟩
theorem RMid.size (h : RMid w1 g q S c s w3) : w1.heap.size ≤ w3.heap.size := by
  obtain ⟨vm, va, vs, vb, S', x, hS, b⟩ := h
  exact b.size
theorem RMid.b (h : RMid w1 g q S c s w3) : But (Ta g q S) w1 w3 := by
  obtain ⟨vm, va, vs, vb, S', x, hS, b⟩ := h
  exact b
theorem RMid.c4 (h : RMid w1 g q S c s w3) : w3.cell? ⟨g, 4, none⟩ = some (Ptr q) := by
  obtain ⟨vm, va, vs, vb, S', x, hS, b⟩ := h
  exact blk_cell x.at0 (i := 4) rfl
theorem RMid.c9 (h : RMid w1 g q S c s w3) : w3.cell? ⟨g, 9, none⟩ = some (.bool s.known) := by
  obtain ⟨vm, va, vs, vb, S', x, hS, b⟩ := h
  exact blk_cell x.at0 (i := 9) rfl
theorem RMid.c10 (h : RMid w1 g q S c s w3) : w3.cell? ⟨g, 10, none⟩ = some (.int .i64 s.value) := by
  obtain ⟨vm, va, vs, vb, S', x, hS, b⟩ := h
  exact blk_cell x.at0 (i := 10) rfl
theorem RMid.anew (h : RMid w1 g q S c s w3) : Calls Tryz.prog 15 #[Ptr g] w3 fun e w' => e = .returned (.tuple #[]) ∧ RMid w1 g q S c s.anew w' := by
  obtain ⟨vm, va, vs, vb, S', x, hS, b⟩ := h
  refine (rkAnew x.base).mono ?_
  rintro e w' ⟨rfl, vm', va', vs', vb', S2, x2, h2, b2⟩
  exact ⟨rfl, vm', va', vs', vb', S2, x2, fun i hi => .inr (Nat.le_trans b.size (h2 i hi)), b.then b2 (fun _ _ e => .inl e)⟩
theorem RMid.state (h : RMid w1 g q S c s w3) (t : Int) : Calls Tryz.prog 22 #[Ptr q, .int .i64 t] w3 fun e w' => ∃ E, e = .returned (.tuple #[.int .i64 (s.at_ c t), .int .i64 E]) ∧ RMid w1 g q S c s w' := by
  have h0 := h
  obtain ⟨vm, va, vs, vb, S', x, hS, b⟩ := h
  refine (L13.rpState_any x.lap t).mono ?_
  rintro e w' ⟨rfl, d⟩
  exact ⟨_, rfl, h0.after d.after⟩
theorem RMid.heard (h : RMid w1 g q S c s w3) (t : Int) (o : Bool) : Calls Tryz.prog 24 #[Ptr q, .int .i64 t, .bool o] w3 fun e w' => ∃ E, e = .returned (.int .i64 E) ∧ RMid w1 g q S c (s.lap t o) w' := by
  obtain ⟨vm, va, vs, vb, S', x, hS, b⟩ := h
  refine (L13.rpHeard_any x.lap t o).mono ?_
  rintro e w' ⟨rfl, l2, b2⟩
  exact ⟨_, rfl, vm, va, vs, vb, S', { at0 := (b2.block g x.lt (fun e => x.ne e)).trans x.at0, lap := l2, ins := x.ins.but b2 (fun i hi e => by cases e; exact x.nq hi), ok := x.ok, ne := x.ne, ng := x.ng, nq := x.nq, lo := x.lo }, hS, b.then b2 (fun _ _ e => .inr (.inl e))⟩
theorem RMid.number (h : RMid w1 g q S c s w3) (hl : s.ins.l.length < 17592186044415) (t y : Int) (b : Bool) (hb : c.k = 4 → (b = true ∧ 0 < y) ∨ (b = false ∧ (if 0 < y then L12.nxt s.ins.l t else s.ins.l) = s.ins.l)) : Calls Tryz.prog 25 #[Ptr g, .int .i64 t, .int .i64 y, .bool b] w3 fun e w' => e = .returned (.tuple #[]) ∧ RMid w1 g q S c (s.take c t y) w' := by
  obtain ⟨vm, va, vs, vb, S', x, hS, b0⟩ := h
  refine (rkNumber x hl t y b hb).mono ?_
  rintro e w' ⟨rfl, S2, x2, h2, b2⟩
  refine ⟨rfl, vm, va, vs, vb, S2, x2, fun i hi => ?_, b0.then b2 (fun i hi e => ?_)⟩
  · rcases h2 i hi with h | h
    · exact hS i h
    · exact .inr (Nat.le_trans b0.size h)
  · rcases e with e | e
    · exact .inl e
    · rcases hS i e with h | h
      · exact .inr (.inr h)
      · omega
end
theorem RkX.not_in {w : World} {g q : Nat} {vm va vs vb : Value} {S : Nat → Prop} {c : Cf} {s : Ts} (x : RkX w g q vm va vs vb S c s) : ¬ Ta g q S w.heap.size := fun h => by
  rcases h with h | h | h
  · have := x.lt; omega
  · have := x.lap.lt; omega
  · have := x.ins.lt _ h; omega
/-- The tick is written down. -/
theorem RkX.goes {w : World} {g q : Nat} {vm va vs vb : Value} {S : Nat → Prop} {c : Cf} {s : Ts} (x : RkX w g q vm va vs vb S c s) {t : Int} (h1 : 0 ≤ t) : RMid w g q S c (s.goes t) (w.setCell ⟨g, 3, none⟩ (.int .i64 t)) := by
  have e : (s.goes t).next - 1 = t := by show t + 1 - 1 = t; omega
  refine ⟨vm, va, vs, vb, S, { at0 := ?_, lap := x.lap.but (but_one w g 3 _) (fun e => x.ne e.symm), ins := x.ins.but (but_one w g 3 _) (fun i hi e => by cases e; exact x.ng hi), ok := x.ok, ne := x.ne, ng := x.ng, nq := x.nq, lo := by show 0 ≤ t + 1; omega }, fun _ h => .inl h, (but_one w g 3 _).mono (fun _ _ e => .inl e)⟩
  rw [e]
  exact blk_put x.at0 3 (.int .i64 t)
/-- The result is written down. -/
theorem RMid.fin {w w1 w6 : World} {g q : Nat} {vm va vs vb : Value} {S : Nat → Prop} {c : Cf} {s s6 s9 : Ts} (aw : After w w1) (hg : w.heap.size < w1.heap.size) (x : RkX w g q vm va vs vb S c s) (h : RMid w1 g q S c s6 w6) (hs : s6 = s9) (y z : Value) : RMid w g q S c s9 ((w6.setCell ⟨w.heap.size, 0, none⟩ y).setCell ⟨w.heap.size, 1, none⟩ z) := by
  obtain ⟨vm', va', vs', vb', S6, x6, hS, b6⟩ := h
  subst hs
  have b8 : But (One w.heap.size) w6 ((w6.setCell ⟨w.heap.size, 0, none⟩ y).setCell ⟨w.heap.size, 1, none⟩ z) := (but_one w6 _ 0 _).trans (but_one _ _ 1 _)
  have hn := x.not_in
  refine ⟨vm', va', vs', vb', S6, x6.but b8 (fun e => hn (.inl e.symm)) (fun e => hn (.inr (.inl e.symm))) (fun i hi e => ?_), fun i hi => (hS i hi).imp id (fun h => Nat.le_trans aw.size h), ?_⟩
  · cases e
    rcases hS _ hi with h | h
    · exact hn (.inr (.inr h))
    · omega
  · exact (aw.but.then b6 (fun _ _ e => e)).then b8 (fun i hi e => by cases e; omega)
theorem refFixed_any (r : Rl) (w : World) : Calls Tryz.prog 23 #[r.val] w fun x w' => x = .returned (.tuple #[.int .i64 (if r.num = true then r.fix else 0), .bool r.num]) ∧ After w w' := by
  unfold Rl.num Rl.fix
  rcases hn : L2.numB r.k r.m r.e with _ | _
  · refine (L2.refFixed_no r.k r.m r.e w hn).mono ?_
    rintro e w' ⟨rfl, ha⟩
    exact ⟨rfl, After.of ha⟩
  · refine (L2.refFixed_yes r.k r.m r.e w hn).mono ?_
    rintro e w' ⟨rfl, ha⟩
    exact ⟨rfl, After.of ha⟩
theorem refMayR (r : Rl) (w : World) : Calls Tryz.prog 21 #[r.val] w fun x w' => x = .returned (.bool r.may) ∧ After w w' := by
  unfold Rl.may
  refine (L2.refMay_any r.k r.m r.e w).mono ?_
  rintro e w' ⟨rfl, ha⟩
  exact ⟨rfl, After.of ha⟩
end Go.Proofs.YtgapnimicaopcaaGreat
/-
  The document's task: a step.
-/
namespace Go.Proofs.YtgapnimicaopcaaGreat
open Go.RowKit
set_option maxRecDepth 8000
set_option maxHeartbeats 2000000 in
/-- A step that is refused. -/
theorem rkStep_no {w : World} {g q : Nat} {vm va vs vb : Value} {S : Nat → Prop} {c : Cf} {s : Ts} (x : RkX w g q vm va vs vb S c s) (t : Int) (a : Option Addr) (n d : Nat) (l : List Rl) (hr : RRow w a n l) (he : s.err t l ≠ 0) : Calls Tryz.prog 10 #[Ptr g, .int .i64 t, .slice a n d] w fun e w' => e = .returned (.tuple #[.agg #[.int .i64 0, .int .i64 0], .int .i64 (s.err t l)]) ∧ After w w' := by
  have x1 := x.after (After.rfl.alloc (.cells #[.int .i64 0, .int .i64 0] 38))
  have c3 := blk_cell x1.at0 (i := 3) rfl
  have c4 := blk_cell x1.at0 (i := 4) rfl
  have hlo := x.lo
  have hln := hr.1
  have hlt := x1.lt
  have hne : (⟨g, 0, none⟩ : Addr) ≠ ⟨w.heap.size, 0, none⟩ := fun e => by cases e; exact absurd x.lt (Nat.lt_irrefl _)
  clear x x1
  unfold Ts.err at he ⊢
  generalize s.next = N at *
  by_cases h0 : t < 0
  · rw [if_pos (.inl (by omega))]
    clear hr he hlo
    go_enter Tryz.func10, Tryz.ntmps10
    go_wp2_with fail
    exact bodyPost_ret (v := .tuple #[.agg #[.int .i64 0, .int .i64 0], .int .i64 9]) (by simp [results, Tryz.results10, go_sem]) rfl ⟨rfl, After.rfl.alloc _⟩
  by_cases h2 : 2147483647 < t
  · rw [if_pos (.inr h2)]
    clear hr he hlo
    go_enter Tryz.func10, Tryz.ntmps10
    go_wp2_with fail
    exact bodyPost_ret (v := .tuple #[.agg #[.int .i64 0, .int .i64 0], .int .i64 9]) (by simp [results, Tryz.results10, go_sem]) rfl ⟨rfl, After.rfl.alloc _⟩
  by_cases h1 : t < N
  · rw [if_pos (.inl h1)]
    have h3 : t ≤ N - 1 := by omega
    clear hr he hlo h1
    go_enter Tryz.func10, Tryz.ntmps10
    go_wp2_with fail
    exact bodyPost_ret (v := .tuple #[.agg #[.int .i64 0, .int .i64 0], .int .i64 9]) (by simp [results, Tryz.results10, go_sem]) rfl ⟨rfl, After.rfl.alloc _⟩
  rw [if_neg (by omega), hln]
  rw [if_neg (by omega), hln] at he
  have h3 : ¬ t ≤ N - 1 := by omega
  by_cases h6 : 64 < n
  · rw [if_pos h6]
    have h6' : (64 : Int) < (n : Int) := by omega
    clear hr he hlo h1 h6
    go_enter Tryz.func10, Tryz.ntmps10
    go_wp2_with fail
    exact bodyPost_ret (v := .tuple #[.agg #[.int .i64 0, .int .i64 0], .int .i64 6]) (by simp [results, Tryz.results10, go_sem]) rfl ⟨rfl, After.rfl.alloc _⟩
  rw [if_neg h6]
  rw [if_neg h6] at he
  have h6' : ¬ (64 : Int) < (n : Int) := by omega
  have hms : mays l = false := by
    rcases h : mays l with _ | _
    · rfl
    · rw [if_pos h] at he; exact absurd rfl he
  rw [hms]
  have HR := hideIt (And.intro hr hms)
  clear hr he hlo h1 h6 hms
  go_enter Tryz.func10, Tryz.ntmps10
  go_wp2_with fail
  go_loopw [8] (fun i wr => ∃ j : Nat, j ≤ n ∧ i = .int .i64 j ∧ mays (l.take j) = true ∧ After (w.alloc (.cells #[.int .i64 0, .int .i64 0] 38)) wr) (fun i _ => n - (intOf i).toNat)
  case atStart => exact ⟨0, Nat.zero_le _, rfl, rfl, After.rfl⟩
  case round =>
    obtain ⟨j, hj, rfl, hm, aw⟩ := hrel
    by_cases hjn : j < n
    · have i1 : (j : Int) < (n : Int) := by omega
      obtain ⟨b, off, r, rfl, hb, hx, k0, k1, k2⟩ := HR.out.1.at_ hjn
      have ab := (After.rfl.alloc (.cells #[.int .i64 0, .int .i64 0] 38) : After w _).trans aw
      have k0' := (ab.cell hb _).trans k0
      have k1' := (ab.cell hb _).trans k1
      have k2' := (ab.cell hb _).trans k2
      have HM := hideIt (fun W => refMayR r W)
      have HS := hideIt (And.intro hm (And.intro hx aw))
      have hlt : b < wr.heap.size := Nat.lt_of_lt_of_le hb ab.size
      rcases hmay : r.may with _ | _
      · rw [hmay] at HM
        clear hm hx aw ab k0 k1 k2 hmay
        go_wp2_with fail
        refine (HM.out _).mono ?_
        rintro e w2 ⟨rfl, a2⟩
        have hg := old_blk' (HS.out.2.2.trans a2) (heap_alloc_new w _)
        obtain ⟨_, e0, e1, e2, e3⟩ := two_at hg
        have HG := hideIt (And.intro hg a2)
        clear hg a2
        go_wp2_with fail
        obtain ⟨_, q0, q1, _, _⟩ := two_at (two_set1 (two_set0 HG.out.1 (.int .i64 0)) (.int .i64 0))
        have HA := (After.rfl.alloc (.cells #[.int .i64 0, .int .i64 0] 38) : After w _).trans (HS.out.2.2.trans HG.out.2)
        exact bodyPost_ret (v := .tuple #[.agg #[.int .i64 0, .int .i64 0], .int .i64 2]) (by simp [results, Tryz.results10, go_sem, q0, q1]) rfl ⟨rfl, (HA.set ⟨w.heap.size, 0, none⟩ (Nat.le_refl _) _).set ⟨w.heap.size, 1, none⟩ (Nat.le_refl _) _⟩
      · have HN := hideIt hmay
        rw [hmay] at HM
        clear hm hx aw ab k0 k1 k2 hmay
        go_wp2_with fail
        refine (HM.out _).mono ?_
        rintro e w2 ⟨rfl, a2⟩
        have HG := hideIt a2
        clear a2
        go_wp2_with fail
        go_roundw
        case rel => exact ⟨j + 1, by omega, by go_num, by rw [mays_take_succ HS.out.2.1, HS.out.1, HN.out]; rfl, HS.out.2.2.trans HG.out⟩
        case measure => simp [intOf]; omega
    · exfalso
      have : j = n := by omega
      have h4 := HR.out.1.1
      rw [this, ← h4, List.take_length, HR.out.2] at hm
      cases hm
end Go.Proofs.YtgapnimicaopcaaGreat
/-
  The document's task: a step that is taken.
-/
namespace Go.Proofs.YtgapnimicaopcaaGreat
open Go.RowKit
set_option maxRecDepth 8000
theorem mays_at {l : List Rl} (h : mays l = true) {j : Nat} {x : Rl} (hx : l[j]? = some x) : x.may = true := by
  rcases e : x.may with _ | _
  · rw [mays_no hx e] at h; cases h
  · rfl
set_option maxHeartbeats 4000000 in
theorem rkStep_yes {w : World} {g q : Nat} {vm va vs vb : Value} {S : Nat → Prop} {c : Cf} {s : Ts} (x : RkX w g q vm va vs vb S c s) (t : Int) (a : Option Addr) (n d : Nat) (l : List Rl) (hr : RRow w a n l) (hna : ∀ y, a = some y → 0 < n → ¬ Ta g q S y.block) (he : s.err t l = 0) (hll : s.ins.l.length + 64 < 17592186044415) : Calls Tryz.prog 10 #[Ptr g, .int .i64 t, .slice a n d] w fun e w' => e = .returned (.tuple #[.agg #[.int .i64 (s.read c t l).s, .int .i64 (s.read c t l).v], .int .i64 0]) ∧ RMid w g q S c (s.step c t l) w' := by
  have hb := s.err_cases t l
  rw [he] at hb
  have hb1 : s.next ≤ t ∧ t ≤ 2147483647 ∧ l.length ≤ 64 ∧ mays l = true := by
    rcases hb with h | h | h | h
    · exact h.2
    all_goals cases h
  obtain ⟨hb1, ht1, hl64, hms⟩ := hb1
  have ht0 : 0 ≤ t := by have := x.lo; omega
  have hln := hr.1
  have h64 : ¬ (64 : Int) < (n : Int) := by omega
  have h0 : ¬ t < 0 := by omega
  have h2 : ¬ 2147483647 < t := by omega
  have h3 : ¬ t ≤ s.next - 1 := by omega
  have x0 := x.after (After.rfl.alloc (.cells #[.int .i64 0, .int .i64 0] 38))
  have c3 := blk_cell x0.at0 (i := 3) rfl
  have c4 := blk_cell x0.at0 (i := 4) rfl
  have hlt := x0.lt
  have HLL : Hid (s.ins.l.length + 64 < 17592186044415 ∧ n ≤ 64) := hideIt ⟨hll, by omega⟩
  have HL := hideIt hln
  have HMS := hideIt hms
  have HX := hideIt (And.intro x (And.intro hr hna))
  obtain ⟨R, hR⟩ : ∃ R, s.read c t l = R := ⟨_, rfl⟩
  have HRD := hideIt hR
  obtain ⟨s9, hs9⟩ : ∃ s9, s.step c t l = s9 := ⟨_, rfl⟩
  have HST := hideIt hs9
  rw [hR, hs9]
  generalize hN : s.next - 1 = N at *
  clear hR hs9 hr hna hb he x hln hN x0 hb1 hl64 hms hll ht1
  by_cases hA : s.at_ c t = 3
  · have HOP : Hid (s.upto c t l 0 = (s.goes t).anew) := hideIt (by rw [Ts.upto_zero]; unfold Ts.opn; rw [if_pos hA])
    have HA := hideIt hA
    clear hA
    go_enter Tryz.func10, Tryz.ntmps10
    go_wp2_with fail
    go_loopw [8] (fun i wr => ∃ j : Nat, j ≤ n ∧ i = .int .i64 j ∧ After (w.alloc (.cells #[.int .i64 0, .int .i64 0] 38)) wr) (fun i _ => n - (intOf i).toNat)
    case atStart => exact ⟨0, Nat.zero_le _, rfl, After.rfl⟩
    case round =>
      obtain ⟨j, hj, rfl, aw⟩ := hrel
      by_cases hjn : j < n
      · have i1 : (j : Int) < (n : Int) := by omega
        obtain ⟨b, off, r, rfl, hb, hx, k0, k1, k2⟩ := HX.out.2.1.at_ hjn
        have ab := (After.rfl.alloc (.cells #[.int .i64 0, .int .i64 0] 38) : After w _).trans aw
        have k0' := (ab.cell hb _).trans k0
        have k1' := (ab.cell hb _).trans k1
        have k2' := (ab.cell hb _).trans k2
        have HM := hideIt (fun W => refMayR r W)
        have HS := hideIt aw
        have hlt : b < wr.heap.size := Nat.lt_of_lt_of_le hb ab.size
        have hmay : r.may = true := mays_at HMS.out hx
        rw [hmay] at HM
        clear hx aw ab k0 k1 k2 hmay
        go_wp2_with fail
        refine (HM.out _).mono ?_
        rintro e w2 ⟨rfl, a2⟩
        have HG := hideIt a2
        clear a2
        go_wp2_with fail
        go_roundw
        case rel => exact ⟨j + 1, by omega, by go_num, HS.out.trans HG.out⟩
        case measure => simp [intOf]; omega
      · have i1 : ¬ (j : Int) < (n : Int) := by omega
        clear hjn hj
        obtain ⟨W1, hW1⟩ : ∃ W1, W1 = wr := ⟨_, rfl⟩
        subst hW1
        have hg := old_blk' aw (heap_alloc_new w _)
        have ab := (After.rfl.alloc (.cells #[.int .i64 0, .int .i64 0] 38) : After w _).trans aw
        have x1 := HX.out.1.after ab
        have d3 := blk_cell x1.at0 (i := 3) rfl
        have f3 := blk_soft x1.at0 3
        have m2 := x1.goes (t := t) ht0
        have HG := hideIt (And.intro hg (And.intro ab HX.out.1.not_in))
        have d4 := m2.c4
        have HM2 := hideIt m2
        clear x1 hg ab aw m2 c3 c4 hlt
        generalize hw2 : World.setCell W1 ⟨g, 3, none⟩ (.int .i64 t) = w2 at *
        have H3 := hideIt (HM2.out.state t)
        rw [show (s.goes t).at_ c t = s.at_ c t from rfl, HA.out] at H3
        go_wp2_with fail
        refine H3.out.mono ?_
        rintro e w3 ⟨E3, rfl, m3⟩
        have H4 := hideIt m3.anew
        clear m3 d3 f3 d4 H3 HM2 hw2
        go_wp2_with fail
        refine H4.out.mono ?_
        rintro e w4 ⟨rfl, m4⟩
        rw [← HOP.out] at m4
        have HM4 := hideIt m4
        clear m4 H4
        go_wp2_with fail
        go_loopw [11, 12] (fun bt i wr' => ∃ (j : Nat) (bb : Bool), j ≤ n ∧ i = .int .i64 j ∧ bt = .bool bb ∧ Bt1 c t (s.upto c t l j) bb ∧ RMid W1 g q S c (s.upto c t l j) wr') (fun _ i _ => n - (intOf i).toNat)
        case atStart => exact ⟨0, false, Nat.zero_le _, rfl, rfl, Bt1.first _ _ _, HM4.out⟩
        case round =>
          obtain ⟨j, bb, hj, rfl, rfl, hbt, hm⟩ := hrel
          clear HM4 HOP
          by_cases hjn : j < n
          · have i2 : (j : Int) < (n : Int) := by omega
            have rr := (HX.out.2.1.after HG.out.2.1).but hm.b (fun y hy h0 => HX.out.2.2 y hy h0)
            obtain ⟨b, off, r, rfl, hbl, hx, k0, k1, k2⟩ := rr.at_ hjn
            have hnb : ¬ Ta g q S b := HX.out.2.2 _ rfl (by omega)
            have hb1 : b < W1.heap.size := by
              obtain ⟨b', off', e1, e2⟩ := (HX.out.2.1.after HG.out.2.1).lt (show 0 < n by omega)
              cases e1
              exact e2
            have HF := hideIt (fun W => refFixed_any r W)
            have HUP := Ts.upto_succ c t s hx
            have hlen := upto_len c t s l j
            have HLN : Hid ((s.upto c t l j).ins.l.length < 17592186044415) := by have := HLL.out; exact hideIt (by omega)
            have hk0 : W1.cell? ⟨b, off + j * 3, none⟩ = some (.int .i64 r.k) := (hm.b.cell hb1 hnb (off + j * 3)).symm.trans k0
            have K0 := hideIt (fun W (bW : But (Ta g q S) W1 W) => (bW.cell hb1 hnb (off + j * 3)).trans hk0)
            have K0l := hideIt (fun W (bW : But (Ta g q S) W1 W) => Nat.lt_of_lt_of_le hb1 bW.size)
            generalize s.upto c t l j = sj at *
            have HJ := hideIt (And.intro hbt hm)
            unfold Ts.hear at HUP
            clear rr hx hbt hm hlen hnb hb1 hk0
            rcases hn : r.num with _ | _
            · rw [hn] at HF
              rw [hn, if_neg (by simp)] at HUP
              rcases hk2 : (r.k == 2) with _ | _
              · have h2 : ¬ r.k = 2 := by simpa using hk2
                rw [if_neg h2] at HUP
                have HU := hideIt HUP
                clear h2 hn HUP
                go_wp2_with fail
                refine (HF.out _).mono ?_
                rintro e w5 ⟨rfl, a5⟩
                have m5 := HJ.out.2.after a5
                have k0' := K0.out _ m5.b
                have kl := K0l.out _ m5.b
                have HM5 := hideIt m5
                clear m5 a5 k0 k1 k2
                go_wp2_with fail
                go_roundw
                case rel => exact ⟨j + 1, bb, by omega, by go_num, rfl, by rw [HU.out]; exact HJ.out.1, by rw [HU.out]; exact HM5.out⟩
                case measure => simp [intOf]; omega
              · have h2 : r.k = 2 := by simpa using hk2
                rw [if_pos h2] at HUP
                have HU := hideIt HUP
                clear h2 hn HUP
                go_wp2_with fail
                refine (HF.out _).mono ?_
                rintro e w5 ⟨rfl, a5⟩
                have m5 := HJ.out.2.after a5
                have k0' := K0.out _ m5.b
                have kl := K0l.out _ m5.b
                have d4 := m5.c4
                have H6 := hideIt (m5.heard t true)
                clear m5 a5 k0 k1 k2
                go_wp2_with fail
                refine H6.out.mono ?_
                rintro e w6 ⟨E6, rfl, m6⟩
                have HM6 := hideIt m6
                clear m6 H6 d4
                go_wp2_with fail
                go_roundw
                case rel => exact ⟨j + 1, bb, by omega, by go_num, rfl, by rw [HU.out]; exact HJ.out.1, by rw [HU.out]; exact HM6.out⟩
                case measure => simp [intOf]; omega
            · rw [hn, if_pos rfl] at HF
              rw [hn, if_pos rfl] at HUP
              have hk2 : (r.k == 2) = false := by rw [(L2.num_bd hn).1]; rfl
              have HU := hideIt HUP
              clear hn HUP
              generalize r.fix = y at *
              rcases bb with _ | _
              · by_cases hy : 0 < y
                · go_wp2_with fail
                  refine (HF.out _).mono ?_
                  rintro e w5 ⟨rfl, a5⟩
                  have m5 := HJ.out.2.after a5
                  have d4 := m5.c4
                  have H6 := hideIt (m5.heard t false)
                  clear m5 a5 k0 k1 k2
                  go_wp2_with fail
                  refine H6.out.mono ?_
                  rintro e w6 ⟨E6, rfl, m6⟩
                  have H7 := hideIt (m6.number HLN.out t y true (fun hk => .inl ⟨rfl, hy⟩))
                  clear m6 H6 d4
                  go_wp2_with fail
                  refine H7.out.mono ?_
                  rintro e w7 ⟨rfl, m7⟩
                  have k0' := K0.out _ m7.b
                  have kl := K0l.out _ m7.b
                  have HM7 := hideIt m7
                  clear m7 H7
                  go_wp2_with fail
                  go_roundw
                  case rel => exact ⟨j + 1, true, by omega, by go_num, by first | rfl | (congr 1; simp; omega), by rw [HU.out]; exact Bt1.take (s := sj.lap t false) (b := false) HJ.out.1 y (fun _ => .inr (by omega)), by rw [HU.out]; exact HM7.out⟩
                  case measure => simp [intOf]; omega
                · go_wp2_with fail
                  refine (HF.out _).mono ?_
                  rintro e w5 ⟨rfl, a5⟩
                  have m5 := HJ.out.2.after a5
                  have d4 := m5.c4
                  have H6 := hideIt (m5.heard t false)
                  clear m5 a5 k0 k1 k2
                  go_wp2_with fail
                  refine H6.out.mono ?_
                  rintro e w6 ⟨E6, rfl, m6⟩
                  have H7 := hideIt (m6.number HLN.out t y false (fun hk => .inr ⟨rfl, if_neg (by omega)⟩))
                  clear m6 H6 d4
                  go_wp2_with fail
                  refine H7.out.mono ?_
                  rintro e w7 ⟨rfl, m7⟩
                  have k0' := K0.out _ m7.b
                  have kl := K0l.out _ m7.b
                  have HM7 := hideIt m7
                  clear m7 H7
                  go_wp2_with fail
                  go_roundw
                  case rel => exact ⟨j + 1, false, by omega, by go_num, by first | rfl | (congr 1; simp; omega), by rw [HU.out]; exact Bt1.first _ _ _, by rw [HU.out]; exact HM7.out⟩
                  case measure => simp [intOf]; omega
              · by_cases hy : 0 < y
                · go_wp2_with fail
                  refine (HF.out _).mono ?_
                  rintro e w5 ⟨rfl, a5⟩
                  have m5 := HJ.out.2.after a5
                  have d4 := m5.c4
                  have H6 := hideIt (m5.heard t false)
                  clear m5 a5 k0 k1 k2
                  go_wp2_with fail
                  refine H6.out.mono ?_
                  rintro e w6 ⟨E6, rfl, m6⟩
                  have H7 := hideIt (m6.number HLN.out t y false (fun hk => .inr ⟨rfl, by rw [if_pos hy]; exact HJ.out.1 rfl hk⟩))
                  clear m6 H6 d4
                  go_wp2_with fail
                  refine H7.out.mono ?_
                  rintro e w7 ⟨rfl, m7⟩
                  have k0' := K0.out _ m7.b
                  have kl := K0l.out _ m7.b
                  have HM7 := hideIt m7
                  clear m7 H7
                  go_wp2_with fail
                  go_roundw
                  case rel => exact ⟨j + 1, true, by omega, by go_num, by first | rfl | (congr 1; simp; omega), by rw [HU.out]; exact Bt1.take (s := sj.lap t false) (b := true) HJ.out.1 y (fun _ => .inr (by omega)), by rw [HU.out]; exact HM7.out⟩
                  case measure => simp [intOf]; omega
                · go_wp2_with fail
                  refine (HF.out _).mono ?_
                  rintro e w5 ⟨rfl, a5⟩
                  have m5 := HJ.out.2.after a5
                  have d4 := m5.c4
                  have H6 := hideIt (m5.heard t false)
                  clear m5 a5 k0 k1 k2
                  go_wp2_with fail
                  refine H6.out.mono ?_
                  rintro e w6 ⟨E6, rfl, m6⟩
                  have H7 := hideIt (m6.number HLN.out t y false (fun hk => .inr ⟨rfl, if_neg (by omega)⟩))
                  clear m6 H6 d4
                  go_wp2_with fail
                  refine H7.out.mono ?_
                  rintro e w7 ⟨rfl, m7⟩
                  have k0' := K0.out _ m7.b
                  have kl := K0l.out _ m7.b
                  have HM7 := hideIt m7
                  clear m7 H7
                  go_wp2_with fail
                  go_roundw
                  case rel => exact ⟨j + 1, true, by omega, by go_num, by first | rfl | (congr 1; simp; omega), by rw [HU.out]; exact Bt1.take (s := sj.lap t false) (b := true) HJ.out.1 y (fun _ => .inl rfl), by rw [HU.out]; exact HM7.out⟩
                  case measure => simp [intOf]; omega
          · have i2 : ¬ (j : Int) < (n : Int) := by omega
            have hjn' : j = n := by omega
            rw [hjn', ← HL.out, Ts.upto_all] at hm
            clear hjn' hbt
            have d4 := hm.c4
            have hrg := at_range c t (s.hears c t l)
            obtain ⟨A, hA⟩ : ∃ A, (s.hears c t l).at_ c t = A := ⟨_, rfl⟩
            have HQ := hideIt (hm.state t)
            rw [hA] at HQ hrg
            have HRD2 : Hid (R = (s.step c t l).rd A) := by
              have := HRD.out
              unfold Ts.read at this
              rw [hA] at this
              exact this.symm
            by_cases h34 : A = 3 ∨ A = 4
            · have hst : s.step c t l = (s.hears c t l).anew := by unfold Ts.step Ts.shut; rw [hA, if_pos h34]
              have HR2 : Hid (R = ⟨A, 0⟩) := hideIt (by rw [HRD2.out, hst]; unfold Ts.rd Ts.anew; rw [if_neg (by simp), if_neg (by omega)])
              have HS9 : Hid ((s.hears c t l).anew = s9) := hideIt (by rw [← hst]; exact HST.out)
              rcases h34 with rfl | rfl
              · clear hst hA hrg hm HRD2
                go_wp2_with fail
                refine HQ.out.mono ?_
                rintro e w4 ⟨E4, rfl, m4⟩
                have HB := hideIt m4.anew
                clear m4 HQ d4
                go_wp2_with fail
                refine HB.out.mono ?_
                rintro e w5 ⟨rfl, m5⟩
                have HM6 := hideIt m5
                clear m5 HB
                have hR := HR2.out
                subst hR
                have hg7 := (HM6.out.b.block w.heap.size (blk_lt HG.out.1) HG.out.2.2).trans HG.out.1
                obtain ⟨_, e0, e1, e2, e3⟩ := two_at hg7
                have HG7 := hideIt hg7
                clear hg7
                go_wp2_with fail
                obtain ⟨_, q0, q1, _, _⟩ := two_at (two_set1 (two_set0 HG7.out (.int .i64 3)) (.int .i64 0))
                exact bodyPost_ret (v := .tuple #[.agg #[.int .i64 3, .int .i64 0], .int .i64 0]) (by simp [results, Tryz.results10, go_sem, q0, q1]) rfl ⟨rfl, RMid.fin HG.out.2.1 (blk_lt HG.out.1) HX.out.1 HM6.out HS9.out _ _⟩
              · clear hst hA hrg hm HRD2
                go_wp2_with fail
                refine HQ.out.mono ?_
                rintro e w4 ⟨E4, rfl, m4⟩
                have HB := hideIt m4.anew
                clear m4 HQ d4
                go_wp2_with fail
                refine HB.out.mono ?_
                rintro e w5 ⟨rfl, m5⟩
                have HM6 := hideIt m5
                clear m5 HB
                have hR := HR2.out
                subst hR
                have hg7 := (HM6.out.b.block w.heap.size (blk_lt HG.out.1) HG.out.2.2).trans HG.out.1
                obtain ⟨_, e0, e1, e2, e3⟩ := two_at hg7
                have HG7 := hideIt hg7
                clear hg7
                go_wp2_with fail
                obtain ⟨_, q0, q1, _, _⟩ := two_at (two_set1 (two_set0 HG7.out (.int .i64 4)) (.int .i64 0))
                exact bodyPost_ret (v := .tuple #[.agg #[.int .i64 4, .int .i64 0], .int .i64 0]) (by simp [results, Tryz.results10, go_sem, q0, q1]) rfl ⟨rfl, RMid.fin HG.out.2.1 (blk_lt HG.out.1) HX.out.1 HM6.out HS9.out _ _⟩
            · have hst : s.step c t l = s.hears c t l := by unfold Ts.step Ts.shut; rw [hA, if_neg h34]
              have n3 : (A == 3) = false := by simp; omega
              have n4 : (A == 4) = false := by simp; omega
              have HS9 : Hid (s.hears c t l = s9) := hideIt (by rw [← hst]; exact HST.out)
              rcases hkn : (s.hears c t l).known with _ | _
              · have HR2 : Hid (R = ⟨0, 0⟩) := hideIt (by
                  rw [HRD2.out, hst]
                  unfold Ts.rd
                  rw [if_neg (by rw [hkn]; simp)]
                  by_cases h12 : A = 1 ∨ A = 2
                  · rw [if_pos h12]
                  · rw [if_neg h12, show A = 0 by omega])
                have HKN := hideIt hkn
                clear hst hA hrg hm HRD2 h34 hkn
                go_wp2_with fail
                refine HQ.out.mono ?_
                rintro e w4 ⟨E4, rfl, m4⟩
                have d9 := m4.c9
                rw [HKN.out] at d9
                have HM6 := hideIt m4
                clear m4 HQ d4
                have hR := HR2.out
                subst hR
                have hg7 := (HM6.out.b.block w.heap.size (blk_lt HG.out.1) HG.out.2.2).trans HG.out.1
                obtain ⟨_, e0, e1, e2, e3⟩ := two_at hg7
                have HG7 := hideIt hg7
                clear hg7
                go_wp2_with fail
                obtain ⟨_, q0, q1, _, _⟩ := two_at (two_set1 (two_set0 HG7.out (.int .i64 0)) (.int .i64 0))
                exact bodyPost_ret (v := .tuple #[.agg #[.int .i64 0, .int .i64 0], .int .i64 0]) (by simp [results, Tryz.results10, go_sem, q0, q1]) rfl ⟨rfl, RMid.fin HG.out.2.1 (blk_lt HG.out.1) HX.out.1 HM6.out HS9.out _ _⟩
              · obtain ⟨V, hV⟩ : ∃ V, (s.hears c t l).value = V := ⟨_, rfl⟩
                have HR2 : Hid (R = ⟨A, V⟩) := hideIt (by
                  rw [HRD2.out, hst]
                  unfold Ts.rd
                  rw [if_pos hkn, hV])
                have HKN := hideIt (And.intro hkn hV)
                clear hst hA hrg hm HRD2 h34 hkn hV
                go_wp2_with fail
                refine HQ.out.mono ?_
                rintro e w4 ⟨E4, rfl, m4⟩
                have d9 := m4.c9
                have d10 := m4.c10
                rw [HKN.out.1] at d9
                rw [HKN.out.2] at d10
                have HM6 := hideIt m4
                clear m4 HQ d4
                have hR := HR2.out
                subst hR
                have hg7 := (HM6.out.b.block w.heap.size (blk_lt HG.out.1) HG.out.2.2).trans HG.out.1
                obtain ⟨_, e0, e1, e2, e3⟩ := two_at hg7
                have HG7 := hideIt hg7
                clear hg7
                go_wp2_with fail
                obtain ⟨_, q0, q1, _, _⟩ := two_at (two_set1 (two_set0 HG7.out (.int .i64 A)) (.int .i64 V))
                exact bodyPost_ret (v := .tuple #[.agg #[.int .i64 A, .int .i64 V], .int .i64 0]) (by simp [results, Tryz.results10, go_sem, q0, q1]) rfl ⟨rfl, RMid.fin HG.out.2.1 (blk_lt HG.out.1) HX.out.1 HM6.out HS9.out _ _⟩
  · have HOP : Hid (s.upto c t l 0 = s.goes t) := hideIt (by rw [Ts.upto_zero]; unfold Ts.opn; rw [if_neg hA])
    obtain ⟨A0, hA0⟩ : ∃ A0, s.at_ c t = A0 := ⟨_, rfl⟩
    have HA := hideIt hA0
    have nA : (A0 == 3) = false := by rw [← hA0]; simp [hA]
    clear hA hA0
    go_enter Tryz.func10, Tryz.ntmps10
    go_wp2_with fail
    go_loopw [8] (fun i wr => ∃ j : Nat, j ≤ n ∧ i = .int .i64 j ∧ After (w.alloc (.cells #[.int .i64 0, .int .i64 0] 38)) wr) (fun i _ => n - (intOf i).toNat)
    case atStart => exact ⟨0, Nat.zero_le _, rfl, After.rfl⟩
    case round =>
      obtain ⟨j, hj, rfl, aw⟩ := hrel
      by_cases hjn : j < n
      · have i1 : (j : Int) < (n : Int) := by omega
        obtain ⟨b, off, r, rfl, hb, hx, k0, k1, k2⟩ := HX.out.2.1.at_ hjn
        have ab := (After.rfl.alloc (.cells #[.int .i64 0, .int .i64 0] 38) : After w _).trans aw
        have k0' := (ab.cell hb _).trans k0
        have k1' := (ab.cell hb _).trans k1
        have k2' := (ab.cell hb _).trans k2
        have HM := hideIt (fun W => refMayR r W)
        have HS := hideIt aw
        have hlt : b < wr.heap.size := Nat.lt_of_lt_of_le hb ab.size
        have hmay : r.may = true := mays_at HMS.out hx
        rw [hmay] at HM
        clear hx aw ab k0 k1 k2 hmay
        go_wp2_with fail
        refine (HM.out _).mono ?_
        rintro e w2 ⟨rfl, a2⟩
        have HG := hideIt a2
        clear a2
        go_wp2_with fail
        go_roundw
        case rel => exact ⟨j + 1, by omega, by go_num, HS.out.trans HG.out⟩
        case measure => simp [intOf]; omega
      · have i1 : ¬ (j : Int) < (n : Int) := by omega
        clear hjn hj
        obtain ⟨W1, hW1⟩ : ∃ W1, W1 = wr := ⟨_, rfl⟩
        subst hW1
        have hg := old_blk' aw (heap_alloc_new w _)
        have ab := (After.rfl.alloc (.cells #[.int .i64 0, .int .i64 0] 38) : After w _).trans aw
        have x1 := HX.out.1.after ab
        have d3 := blk_cell x1.at0 (i := 3) rfl
        have f3 := blk_soft x1.at0 3
        have m2 := x1.goes (t := t) ht0
        have HG := hideIt (And.intro hg (And.intro ab HX.out.1.not_in))
        have d4 := m2.c4
        have HM2 := hideIt m2
        clear x1 hg ab aw m2 c3 c4 hlt
        generalize hw2 : World.setCell W1 ⟨g, 3, none⟩ (.int .i64 t) = w2 at *
        have H3 := hideIt (HM2.out.state t)
        rw [show (s.goes t).at_ c t = s.at_ c t from rfl, HA.out] at H3
        go_wp2_with fail
        refine H3.out.mono ?_
        rintro e w3 ⟨E3, rfl, m3⟩
        rw [← HOP.out] at m3
        have HM4 := hideIt m3
        clear m3 d3 f3 d4 H3 HM2 hw2
        go_wp2_with fail
        go_loopw [11, 12] (fun bt i wr' => ∃ (j : Nat) (bb : Bool), j ≤ n ∧ i = .int .i64 j ∧ bt = .bool bb ∧ Bt1 c t (s.upto c t l j) bb ∧ RMid W1 g q S c (s.upto c t l j) wr') (fun _ i _ => n - (intOf i).toNat)
        case atStart => exact ⟨0, false, Nat.zero_le _, rfl, rfl, Bt1.first _ _ _, HM4.out⟩
        case round =>
          obtain ⟨j, bb, hj, rfl, rfl, hbt, hm⟩ := hrel
          clear HM4 HOP
          by_cases hjn : j < n
          · have i2 : (j : Int) < (n : Int) := by omega
            have rr := (HX.out.2.1.after HG.out.2.1).but hm.b (fun y hy h0 => HX.out.2.2 y hy h0)
            obtain ⟨b, off, r, rfl, hbl, hx, k0, k1, k2⟩ := rr.at_ hjn
            have hnb : ¬ Ta g q S b := HX.out.2.2 _ rfl (by omega)
            have hb1 : b < W1.heap.size := by
              obtain ⟨b', off', e1, e2⟩ := (HX.out.2.1.after HG.out.2.1).lt (show 0 < n by omega)
              cases e1
              exact e2
            have HF := hideIt (fun W => refFixed_any r W)
            have HUP := Ts.upto_succ c t s hx
            have hlen := upto_len c t s l j
            have HLN : Hid ((s.upto c t l j).ins.l.length < 17592186044415) := by have := HLL.out; exact hideIt (by omega)
            have hk0 : W1.cell? ⟨b, off + j * 3, none⟩ = some (.int .i64 r.k) := (hm.b.cell hb1 hnb (off + j * 3)).symm.trans k0
            have K0 := hideIt (fun W (bW : But (Ta g q S) W1 W) => (bW.cell hb1 hnb (off + j * 3)).trans hk0)
            have K0l := hideIt (fun W (bW : But (Ta g q S) W1 W) => Nat.lt_of_lt_of_le hb1 bW.size)
            generalize s.upto c t l j = sj at *
            have HJ := hideIt (And.intro hbt hm)
            unfold Ts.hear at HUP
            clear rr hx hbt hm hlen hnb hb1 hk0
            rcases hn : r.num with _ | _
            · rw [hn] at HF
              rw [hn, if_neg (by simp)] at HUP
              rcases hk2 : (r.k == 2) with _ | _
              · have h2 : ¬ r.k = 2 := by simpa using hk2
                rw [if_neg h2] at HUP
                have HU := hideIt HUP
                clear h2 hn HUP
                go_wp2_with fail
                refine (HF.out _).mono ?_
                rintro e w5 ⟨rfl, a5⟩
                have m5 := HJ.out.2.after a5
                have k0' := K0.out _ m5.b
                have kl := K0l.out _ m5.b
                have HM5 := hideIt m5
                clear m5 a5 k0 k1 k2
                go_wp2_with fail
                go_roundw
                case rel => exact ⟨j + 1, bb, by omega, by go_num, rfl, by rw [HU.out]; exact HJ.out.1, by rw [HU.out]; exact HM5.out⟩
                case measure => simp [intOf]; omega
              · have h2 : r.k = 2 := by simpa using hk2
                rw [if_pos h2] at HUP
                have HU := hideIt HUP
                clear h2 hn HUP
                go_wp2_with fail
                refine (HF.out _).mono ?_
                rintro e w5 ⟨rfl, a5⟩
                have m5 := HJ.out.2.after a5
                have k0' := K0.out _ m5.b
                have kl := K0l.out _ m5.b
                have d4 := m5.c4
                have H6 := hideIt (m5.heard t true)
                clear m5 a5 k0 k1 k2
                go_wp2_with fail
                refine H6.out.mono ?_
                rintro e w6 ⟨E6, rfl, m6⟩
                have HM6 := hideIt m6
                clear m6 H6 d4
                go_wp2_with fail
                go_roundw
                case rel => exact ⟨j + 1, bb, by omega, by go_num, rfl, by rw [HU.out]; exact HJ.out.1, by rw [HU.out]; exact HM6.out⟩
                case measure => simp [intOf]; omega
            · rw [hn, if_pos rfl] at HF
              rw [hn, if_pos rfl] at HUP
              have hk2 : (r.k == 2) = false := by rw [(L2.num_bd hn).1]; rfl
              have HU := hideIt HUP
              clear hn HUP
              generalize r.fix = y at *
              rcases bb with _ | _
              · by_cases hy : 0 < y
                · go_wp2_with fail
                  refine (HF.out _).mono ?_
                  rintro e w5 ⟨rfl, a5⟩
                  have m5 := HJ.out.2.after a5
                  have d4 := m5.c4
                  have H6 := hideIt (m5.heard t false)
                  clear m5 a5 k0 k1 k2
                  go_wp2_with fail
                  refine H6.out.mono ?_
                  rintro e w6 ⟨E6, rfl, m6⟩
                  have H7 := hideIt (m6.number HLN.out t y true (fun hk => .inl ⟨rfl, hy⟩))
                  clear m6 H6 d4
                  go_wp2_with fail
                  refine H7.out.mono ?_
                  rintro e w7 ⟨rfl, m7⟩
                  have k0' := K0.out _ m7.b
                  have kl := K0l.out _ m7.b
                  have HM7 := hideIt m7
                  clear m7 H7
                  go_wp2_with fail
                  go_roundw
                  case rel => exact ⟨j + 1, true, by omega, by go_num, by first | rfl | (congr 1; simp; omega), by rw [HU.out]; exact Bt1.take (s := sj.lap t false) (b := false) HJ.out.1 y (fun _ => .inr (by omega)), by rw [HU.out]; exact HM7.out⟩
                  case measure => simp [intOf]; omega
                · go_wp2_with fail
                  refine (HF.out _).mono ?_
                  rintro e w5 ⟨rfl, a5⟩
                  have m5 := HJ.out.2.after a5
                  have d4 := m5.c4
                  have H6 := hideIt (m5.heard t false)
                  clear m5 a5 k0 k1 k2
                  go_wp2_with fail
                  refine H6.out.mono ?_
                  rintro e w6 ⟨E6, rfl, m6⟩
                  have H7 := hideIt (m6.number HLN.out t y false (fun hk => .inr ⟨rfl, if_neg (by omega)⟩))
                  clear m6 H6 d4
                  go_wp2_with fail
                  refine H7.out.mono ?_
                  rintro e w7 ⟨rfl, m7⟩
                  have k0' := K0.out _ m7.b
                  have kl := K0l.out _ m7.b
                  have HM7 := hideIt m7
                  clear m7 H7
                  go_wp2_with fail
                  go_roundw
                  case rel => exact ⟨j + 1, false, by omega, by go_num, by first | rfl | (congr 1; simp; omega), by rw [HU.out]; exact Bt1.first _ _ _, by rw [HU.out]; exact HM7.out⟩
                  case measure => simp [intOf]; omega
              · by_cases hy : 0 < y
                · go_wp2_with fail
                  refine (HF.out _).mono ?_
                  rintro e w5 ⟨rfl, a5⟩
                  have m5 := HJ.out.2.after a5
                  have d4 := m5.c4
                  have H6 := hideIt (m5.heard t false)
                  clear m5 a5 k0 k1 k2
                  go_wp2_with fail
                  refine H6.out.mono ?_
                  rintro e w6 ⟨E6, rfl, m6⟩
                  have H7 := hideIt (m6.number HLN.out t y false (fun hk => .inr ⟨rfl, by rw [if_pos hy]; exact HJ.out.1 rfl hk⟩))
                  clear m6 H6 d4
                  go_wp2_with fail
                  refine H7.out.mono ?_
                  rintro e w7 ⟨rfl, m7⟩
                  have k0' := K0.out _ m7.b
                  have kl := K0l.out _ m7.b
                  have HM7 := hideIt m7
                  clear m7 H7
                  go_wp2_with fail
                  go_roundw
                  case rel => exact ⟨j + 1, true, by omega, by go_num, by first | rfl | (congr 1; simp; omega), by rw [HU.out]; exact Bt1.take (s := sj.lap t false) (b := true) HJ.out.1 y (fun _ => .inr (by omega)), by rw [HU.out]; exact HM7.out⟩
                  case measure => simp [intOf]; omega
                · go_wp2_with fail
                  refine (HF.out _).mono ?_
                  rintro e w5 ⟨rfl, a5⟩
                  have m5 := HJ.out.2.after a5
                  have d4 := m5.c4
                  have H6 := hideIt (m5.heard t false)
                  clear m5 a5 k0 k1 k2
                  go_wp2_with fail
                  refine H6.out.mono ?_
                  rintro e w6 ⟨E6, rfl, m6⟩
                  have H7 := hideIt (m6.number HLN.out t y false (fun hk => .inr ⟨rfl, if_neg (by omega)⟩))
                  clear m6 H6 d4
                  go_wp2_with fail
                  refine H7.out.mono ?_
                  rintro e w7 ⟨rfl, m7⟩
                  have k0' := K0.out _ m7.b
                  have kl := K0l.out _ m7.b
                  have HM7 := hideIt m7
                  clear m7 H7
                  go_wp2_with fail
                  go_roundw
                  case rel => exact ⟨j + 1, true, by omega, by go_num, by first | rfl | (congr 1; simp; omega), by rw [HU.out]; exact Bt1.take (s := sj.lap t false) (b := true) HJ.out.1 y (fun _ => .inl rfl), by rw [HU.out]; exact HM7.out⟩
                  case measure => simp [intOf]; omega
          · have i2 : ¬ (j : Int) < (n : Int) := by omega
            have hjn' : j = n := by omega
            rw [hjn', ← HL.out, Ts.upto_all] at hm
            clear hjn' hbt
            have d4 := hm.c4
            have hrg := at_range c t (s.hears c t l)
            obtain ⟨A, hA⟩ : ∃ A, (s.hears c t l).at_ c t = A := ⟨_, rfl⟩
            have HQ := hideIt (hm.state t)
            rw [hA] at HQ hrg
            have HRD2 : Hid (R = (s.step c t l).rd A) := by
              have := HRD.out
              unfold Ts.read at this
              rw [hA] at this
              exact this.symm
            by_cases h34 : A = 3 ∨ A = 4
            · have hst : s.step c t l = (s.hears c t l).anew := by unfold Ts.step Ts.shut; rw [hA, if_pos h34]
              have HR2 : Hid (R = ⟨A, 0⟩) := hideIt (by rw [HRD2.out, hst]; unfold Ts.rd Ts.anew; rw [if_neg (by simp), if_neg (by omega)])
              have HS9 : Hid ((s.hears c t l).anew = s9) := hideIt (by rw [← hst]; exact HST.out)
              rcases h34 with rfl | rfl
              · clear hst hA hrg hm HRD2
                go_wp2_with fail
                refine HQ.out.mono ?_
                rintro e w4 ⟨E4, rfl, m4⟩
                have HB := hideIt m4.anew
                clear m4 HQ d4
                go_wp2_with fail
                refine HB.out.mono ?_
                rintro e w5 ⟨rfl, m5⟩
                have HM6 := hideIt m5
                clear m5 HB
                have hR := HR2.out
                subst hR
                have hg7 := (HM6.out.b.block w.heap.size (blk_lt HG.out.1) HG.out.2.2).trans HG.out.1
                obtain ⟨_, e0, e1, e2, e3⟩ := two_at hg7
                have HG7 := hideIt hg7
                clear hg7
                go_wp2_with fail
                obtain ⟨_, q0, q1, _, _⟩ := two_at (two_set1 (two_set0 HG7.out (.int .i64 3)) (.int .i64 0))
                exact bodyPost_ret (v := .tuple #[.agg #[.int .i64 3, .int .i64 0], .int .i64 0]) (by simp [results, Tryz.results10, go_sem, q0, q1]) rfl ⟨rfl, RMid.fin HG.out.2.1 (blk_lt HG.out.1) HX.out.1 HM6.out HS9.out _ _⟩
              · clear hst hA hrg hm HRD2
                go_wp2_with fail
                refine HQ.out.mono ?_
                rintro e w4 ⟨E4, rfl, m4⟩
                have HB := hideIt m4.anew
                clear m4 HQ d4
                go_wp2_with fail
                refine HB.out.mono ?_
                rintro e w5 ⟨rfl, m5⟩
                have HM6 := hideIt m5
                clear m5 HB
                have hR := HR2.out
                subst hR
                have hg7 := (HM6.out.b.block w.heap.size (blk_lt HG.out.1) HG.out.2.2).trans HG.out.1
                obtain ⟨_, e0, e1, e2, e3⟩ := two_at hg7
                have HG7 := hideIt hg7
                clear hg7
                go_wp2_with fail
                obtain ⟨_, q0, q1, _, _⟩ := two_at (two_set1 (two_set0 HG7.out (.int .i64 4)) (.int .i64 0))
                exact bodyPost_ret (v := .tuple #[.agg #[.int .i64 4, .int .i64 0], .int .i64 0]) (by simp [results, Tryz.results10, go_sem, q0, q1]) rfl ⟨rfl, RMid.fin HG.out.2.1 (blk_lt HG.out.1) HX.out.1 HM6.out HS9.out _ _⟩
            · have hst : s.step c t l = s.hears c t l := by unfold Ts.step Ts.shut; rw [hA, if_neg h34]
              have n3 : (A == 3) = false := by simp; omega
              have n4 : (A == 4) = false := by simp; omega
              have HS9 : Hid (s.hears c t l = s9) := hideIt (by rw [← hst]; exact HST.out)
              rcases hkn : (s.hears c t l).known with _ | _
              · have HR2 : Hid (R = ⟨0, 0⟩) := hideIt (by
                  rw [HRD2.out, hst]
                  unfold Ts.rd
                  rw [if_neg (by rw [hkn]; simp)]
                  by_cases h12 : A = 1 ∨ A = 2
                  · rw [if_pos h12]
                  · rw [if_neg h12, show A = 0 by omega])
                have HKN := hideIt hkn
                clear hst hA hrg hm HRD2 h34 hkn
                go_wp2_with fail
                refine HQ.out.mono ?_
                rintro e w4 ⟨E4, rfl, m4⟩
                have d9 := m4.c9
                rw [HKN.out] at d9
                have HM6 := hideIt m4
                clear m4 HQ d4
                have hR := HR2.out
                subst hR
                have hg7 := (HM6.out.b.block w.heap.size (blk_lt HG.out.1) HG.out.2.2).trans HG.out.1
                obtain ⟨_, e0, e1, e2, e3⟩ := two_at hg7
                have HG7 := hideIt hg7
                clear hg7
                go_wp2_with fail
                obtain ⟨_, q0, q1, _, _⟩ := two_at (two_set1 (two_set0 HG7.out (.int .i64 0)) (.int .i64 0))
                exact bodyPost_ret (v := .tuple #[.agg #[.int .i64 0, .int .i64 0], .int .i64 0]) (by simp [results, Tryz.results10, go_sem, q0, q1]) rfl ⟨rfl, RMid.fin HG.out.2.1 (blk_lt HG.out.1) HX.out.1 HM6.out HS9.out _ _⟩
              · obtain ⟨V, hV⟩ : ∃ V, (s.hears c t l).value = V := ⟨_, rfl⟩
                have HR2 : Hid (R = ⟨A, V⟩) := hideIt (by
                  rw [HRD2.out, hst]
                  unfold Ts.rd
                  rw [if_pos hkn, hV])
                have HKN := hideIt (And.intro hkn hV)
                clear hst hA hrg hm HRD2 h34 hkn hV
                go_wp2_with fail
                refine HQ.out.mono ?_
                rintro e w4 ⟨E4, rfl, m4⟩
                have d9 := m4.c9
                have d10 := m4.c10
                rw [HKN.out.1] at d9
                rw [HKN.out.2] at d10
                have HM6 := hideIt m4
                clear m4 HQ d4
                have hR := HR2.out
                subst hR
                have hg7 := (HM6.out.b.block w.heap.size (blk_lt HG.out.1) HG.out.2.2).trans HG.out.1
                obtain ⟨_, e0, e1, e2, e3⟩ := two_at hg7
                have HG7 := hideIt hg7
                clear hg7
                go_wp2_with fail
                obtain ⟨_, q0, q1, _, _⟩ := two_at (two_set1 (two_set0 HG7.out (.int .i64 A)) (.int .i64 V))
                exact bodyPost_ret (v := .tuple #[.agg #[.int .i64 A, .int .i64 V], .int .i64 0]) (by simp [results, Tryz.results10, go_sem, q0, q1]) rfl ⟨rfl, RMid.fin HG.out.2.1 (blk_lt HG.out.1) HX.out.1 HM6.out HS9.out _ _⟩
end Go.Proofs.YtgapnimicaopcaaGreat
/-
  The document's task: which filters may be, New, and a step whatever it is.
-/
namespace Go.Proofs.YtgapnimicaopcaaGreat
open Go.RowKit
set_option maxRecDepth 8000
set_option maxHeartbeats 2000000 in
theorem refCheckE (w : World) (k n st : Int) : Calls Tryz.prog 7 #[.agg #[.int .i64 k, .int .i64 n, .int .i64 st]] w fun e w' => ∃ E, e = .returned (.int .i64 E) ∧ (MayF k n st → E = 0) ∧ (¬ MayF k n st → E = 2) ∧ After w w' := by
  rcases (by omega : st < 1 ∨ (1 ≤ st ∧ 10000 < st) ∨ (1 ≤ st ∧ st ≤ 10000)) with hs | ⟨hs, hs2⟩ | ⟨hs, hs2⟩
  · rcases (by omega : k = 0 ∨ k = 1 ∨ k = 2 ∨ k = 3 ∨ k = 4 ∨ (k ≠ 0 ∧ k ≠ 1 ∧ k ≠ 2 ∧ k ≠ 3 ∧ k ≠ 4)) with rfl | rfl | rfl | rfl | rfl | hk
    · have HM : Hid (¬ MayF 0 n st) := hideIt (by unfold MayF MayK L9.May L10.May L11.May L12.May L13.May; omega)
      go_enter Tryz.func7, Tryz.ntmps7
      go_wp2_with fail
      all_goals first
        | (go_ret; exact ⟨_, rfl, fun h => absurd h HM.out, fun _ => rfl, After.rfl.alloc _⟩)
        | (rename_i hq; exfalso; revert hq; simp; try omega)
    · have HM : Hid (¬ MayF 1 n st) := hideIt (by unfold MayF MayK L9.May L10.May L11.May L12.May L13.May; omega)
      go_enter Tryz.func7, Tryz.ntmps7
      go_wp2_with fail
      all_goals first
        | (go_ret; exact ⟨_, rfl, fun h => absurd h HM.out, fun _ => rfl, After.rfl.alloc _⟩)
        | (rename_i hq; exfalso; revert hq; simp; try omega)
    · have HM : Hid (¬ MayF 2 n st) := hideIt (by unfold MayF MayK L9.May L10.May L11.May L12.May L13.May; omega)
      go_enter Tryz.func7, Tryz.ntmps7
      go_wp2_with fail
      all_goals first
        | (go_ret; exact ⟨_, rfl, fun h => absurd h HM.out, fun _ => rfl, After.rfl.alloc _⟩)
        | (rename_i hq; exfalso; revert hq; simp; try omega)
    · have HM : Hid (¬ MayF 3 n st) := hideIt (by unfold MayF MayK L9.May L10.May L11.May L12.May L13.May; omega)
      go_enter Tryz.func7, Tryz.ntmps7
      go_wp2_with fail
      all_goals first
        | (go_ret; exact ⟨_, rfl, fun h => absurd h HM.out, fun _ => rfl, After.rfl.alloc _⟩)
        | (rename_i hq; exfalso; revert hq; simp; try omega)
    · have HM : Hid (¬ MayF 4 n st) := hideIt (by unfold MayF MayK L9.May L10.May L11.May L12.May L13.May; omega)
      go_enter Tryz.func7, Tryz.ntmps7
      go_wp2_with fail
      all_goals first
        | (go_ret; exact ⟨_, rfl, fun h => absurd h HM.out, fun _ => rfl, After.rfl.alloc _⟩)
        | (rename_i hq; exfalso; revert hq; simp; try omega)
    · obtain ⟨k0, k1, k2, k3, k4⟩ := hk
      have HM : Hid (¬ MayF k n st) := hideIt (by unfold MayF MayK L9.May L10.May L11.May L12.May L13.May; omega)
      go_enter Tryz.func7, Tryz.ntmps7
      go_wp2_with fail
      all_goals first
        | (go_ret; exact ⟨_, rfl, fun h => absurd h HM.out, fun _ => rfl, After.rfl.alloc _⟩)
        | (rename_i hq; exfalso; revert hq; simp; try omega)
  · rcases (by omega : k = 0 ∨ k = 1 ∨ k = 2 ∨ k = 3 ∨ k = 4 ∨ (k ≠ 0 ∧ k ≠ 1 ∧ k ≠ 2 ∧ k ≠ 3 ∧ k ≠ 4)) with rfl | rfl | rfl | rfl | rfl | hk
    · have HM : Hid (¬ MayF 0 n st) := hideIt (by unfold MayF MayK L9.May L10.May L11.May L12.May L13.May; omega)
      go_enter Tryz.func7, Tryz.ntmps7
      go_wp2_with fail
      all_goals first
        | (go_ret; exact ⟨_, rfl, fun h => absurd h HM.out, fun _ => rfl, After.rfl.alloc _⟩)
        | (rename_i hq; exfalso; revert hq; simp; try omega)
    · have HM : Hid (¬ MayF 1 n st) := hideIt (by unfold MayF MayK L9.May L10.May L11.May L12.May L13.May; omega)
      go_enter Tryz.func7, Tryz.ntmps7
      go_wp2_with fail
      all_goals first
        | (go_ret; exact ⟨_, rfl, fun h => absurd h HM.out, fun _ => rfl, After.rfl.alloc _⟩)
        | (rename_i hq; exfalso; revert hq; simp; try omega)
    · have HM : Hid (¬ MayF 2 n st) := hideIt (by unfold MayF MayK L9.May L10.May L11.May L12.May L13.May; omega)
      go_enter Tryz.func7, Tryz.ntmps7
      go_wp2_with fail
      all_goals first
        | (go_ret; exact ⟨_, rfl, fun h => absurd h HM.out, fun _ => rfl, After.rfl.alloc _⟩)
        | (rename_i hq; exfalso; revert hq; simp; try omega)
    · have HM : Hid (¬ MayF 3 n st) := hideIt (by unfold MayF MayK L9.May L10.May L11.May L12.May L13.May; omega)
      go_enter Tryz.func7, Tryz.ntmps7
      go_wp2_with fail
      all_goals first
        | (go_ret; exact ⟨_, rfl, fun h => absurd h HM.out, fun _ => rfl, After.rfl.alloc _⟩)
        | (rename_i hq; exfalso; revert hq; simp; try omega)
    · have HM : Hid (¬ MayF 4 n st) := hideIt (by unfold MayF MayK L9.May L10.May L11.May L12.May L13.May; omega)
      go_enter Tryz.func7, Tryz.ntmps7
      go_wp2_with fail
      all_goals first
        | (go_ret; exact ⟨_, rfl, fun h => absurd h HM.out, fun _ => rfl, After.rfl.alloc _⟩)
        | (rename_i hq; exfalso; revert hq; simp; try omega)
    · obtain ⟨k0, k1, k2, k3, k4⟩ := hk
      have HM : Hid (¬ MayF k n st) := hideIt (by unfold MayF MayK L9.May L10.May L11.May L12.May L13.May; omega)
      go_enter Tryz.func7, Tryz.ntmps7
      go_wp2_with fail
      all_goals first
        | (go_ret; exact ⟨_, rfl, fun h => absurd h HM.out, fun _ => rfl, After.rfl.alloc _⟩)
        | (rename_i hq; exfalso; revert hq; simp; try omega)
  · rcases (by omega : k = 0 ∨ k = 1 ∨ k = 2 ∨ k = 3 ∨ k = 4 ∨ (k ≠ 0 ∧ k ≠ 1 ∧ k ≠ 2 ∧ k ≠ 3 ∧ k ≠ 4)) with rfl | rfl | rfl | rfl | rfl | hk
    · rcases (by omega : n = 0 ∨ n ≠ 0) with hn | hn
      · subst hn
        have HM : Hid (MayF 0 0 st) := hideIt (by unfold MayF MayK L9.May L10.May L11.May L12.May L13.May; omega)
        go_enter Tryz.func7, Tryz.ntmps7
        go_wp2_with fail
        all_goals first
          | (go_ret; exact ⟨_, rfl, fun _ => rfl, fun h => absurd HM.out h, After.rfl.alloc _⟩)
          | (rename_i hq; exfalso; revert hq; simp; try omega)
      · have HM : Hid (¬ MayF 0 n st) := hideIt (by unfold MayF MayK L9.May L10.May L11.May L12.May L13.May; omega)
        go_enter Tryz.func7, Tryz.ntmps7
        go_wp2_with fail
        all_goals first
          | (go_ret; exact ⟨_, rfl, fun h => absurd h HM.out, fun _ => rfl, After.rfl.alloc _⟩)
          | (rename_i hq; exfalso; revert hq; simp; try omega)
    · rcases (by omega : n < 1 ∨ (1 ≤ n ∧ 15 < n) ∨ (1 ≤ n ∧ n ≤ 15 ∧ n % 2 = 1) ∨ (1 ≤ n ∧ n ≤ 15 ∧ n % 2 ≠ 1)) with hn | hn | hn | hn
      · have HM : Hid (¬ MayF 1 n st) := hideIt (by unfold MayF MayK L9.May L10.May L11.May L12.May L13.May; omega)
        go_enter Tryz.func7, Tryz.ntmps7
        go_wp2_with fail
        all_goals first
          | (go_ret; exact ⟨_, rfl, fun h => absurd h HM.out, fun _ => rfl, After.rfl.alloc _⟩)
          | (rename_i hq; exfalso; revert hq; simp; try omega)
      · obtain ⟨n0, n1⟩ := hn
        have HM : Hid (¬ MayF 1 n st) := hideIt (by unfold MayF MayK L9.May L10.May L11.May L12.May L13.May; omega)
        go_enter Tryz.func7, Tryz.ntmps7
        go_wp2_with fail
        all_goals first
          | (go_ret; exact ⟨_, rfl, fun h => absurd h HM.out, fun _ => rfl, After.rfl.alloc _⟩)
          | (rename_i hq; exfalso; revert hq; simp; try omega)
      · obtain ⟨n0, n1, n2⟩ := hn
        have hm : Int.tmod n 2 = n % 2 := Int.tmod_eq_emod_of_nonneg (by omega)
        have hm2 : (Int.tmod n 2 == 1) = true := by rw [hm]; simpa using n2
        have HM : Hid (MayF 1 n st) := hideIt (by unfold MayF MayK L9.May L10.May L11.May L12.May L13.May; omega)
        go_enter Tryz.func7, Tryz.ntmps7
        go_wp2_with fail
        all_goals first
          | (go_ret; exact ⟨_, rfl, fun _ => rfl, fun h => absurd HM.out h, After.rfl.alloc _⟩)
          | (rename_i hq; exfalso; revert hq; simp; try omega)
      · obtain ⟨n0, n1, n2⟩ := hn
        have hm : Int.tmod n 2 = n % 2 := Int.tmod_eq_emod_of_nonneg (by omega)
        have hm2 : (Int.tmod n 2 == 1) = false := by rw [hm]; simpa using n2
        have HM : Hid (¬ MayF 1 n st) := hideIt (by unfold MayF MayK L9.May L10.May L11.May L12.May L13.May; omega)
        go_enter Tryz.func7, Tryz.ntmps7
        go_wp2_with fail
        all_goals first
          | (go_ret; exact ⟨_, rfl, fun h => absurd h HM.out, fun _ => rfl, After.rfl.alloc _⟩)
          | (rename_i hq; exfalso; revert hq; simp; try omega)
    · rcases (by omega : n < 1 ∨ (1 ≤ n ∧ 15 < n) ∨ (1 ≤ n ∧ n ≤ 15)) with hn | hn | hn
      · have HM : Hid (¬ MayF 2 n st) := hideIt (by unfold MayF MayK L9.May L10.May L11.May L12.May L13.May; omega)
        go_enter Tryz.func7, Tryz.ntmps7
        go_wp2_with fail
        all_goals first
          | (go_ret; exact ⟨_, rfl, fun h => absurd h HM.out, fun _ => rfl, After.rfl.alloc _⟩)
          | (rename_i hq; exfalso; revert hq; simp; try omega)
      · obtain ⟨n0, n1⟩ := hn
        have HM : Hid (¬ MayF 2 n st) := hideIt (by unfold MayF MayK L9.May L10.May L11.May L12.May L13.May; omega)
        go_enter Tryz.func7, Tryz.ntmps7
        go_wp2_with fail
        all_goals first
          | (go_ret; exact ⟨_, rfl, fun h => absurd h HM.out, fun _ => rfl, After.rfl.alloc _⟩)
          | (rename_i hq; exfalso; revert hq; simp; try omega)
      · obtain ⟨n0, n1⟩ := hn
        have HM : Hid (MayF 2 n st) := hideIt (by unfold MayF MayK L9.May L10.May L11.May L12.May L13.May; omega)
        go_enter Tryz.func7, Tryz.ntmps7
        go_wp2_with fail
        all_goals first
          | (go_ret; exact ⟨_, rfl, fun _ => rfl, fun h => absurd HM.out h, After.rfl.alloc _⟩)
          | (rename_i hq; exfalso; revert hq; simp; try omega)
    · rcases (by omega : n < 1 ∨ (1 ≤ n ∧ 1000 < n) ∨ (1 ≤ n ∧ n ≤ 1000)) with hn | hn | hn
      · have HM : Hid (¬ MayF 3 n st) := hideIt (by unfold MayF MayK L9.May L10.May L11.May L12.May L13.May; omega)
        go_enter Tryz.func7, Tryz.ntmps7
        go_wp2_with fail
        all_goals first
          | (go_ret; exact ⟨_, rfl, fun h => absurd h HM.out, fun _ => rfl, After.rfl.alloc _⟩)
          | (rename_i hq; exfalso; revert hq; simp; try omega)
      · obtain ⟨n0, n1⟩ := hn
        have HM : Hid (¬ MayF 3 n st) := hideIt (by unfold MayF MayK L9.May L10.May L11.May L12.May L13.May; omega)
        go_enter Tryz.func7, Tryz.ntmps7
        go_wp2_with fail
        all_goals first
          | (go_ret; exact ⟨_, rfl, fun h => absurd h HM.out, fun _ => rfl, After.rfl.alloc _⟩)
          | (rename_i hq; exfalso; revert hq; simp; try omega)
      · obtain ⟨n0, n1⟩ := hn
        have HM : Hid (MayF 3 n st) := hideIt (by unfold MayF MayK L9.May L10.May L11.May L12.May L13.May; omega)
        go_enter Tryz.func7, Tryz.ntmps7
        go_wp2_with fail
        all_goals first
          | (go_ret; exact ⟨_, rfl, fun _ => rfl, fun h => absurd HM.out h, After.rfl.alloc _⟩)
          | (rename_i hq; exfalso; revert hq; simp; try omega)
    · rcases (by omega : n < 2 ∨ (2 ≤ n ∧ 8 < n) ∨ (2 ≤ n ∧ n ≤ 8)) with hn | hn | hn
      · have HM : Hid (¬ MayF 4 n st) := hideIt (by unfold MayF MayK L9.May L10.May L11.May L12.May L13.May; omega)
        go_enter Tryz.func7, Tryz.ntmps7
        go_wp2_with fail
        all_goals first
          | (go_ret; exact ⟨_, rfl, fun h => absurd h HM.out, fun _ => rfl, After.rfl.alloc _⟩)
          | (rename_i hq; exfalso; revert hq; simp; try omega)
      · obtain ⟨n0, n1⟩ := hn
        have HM : Hid (¬ MayF 4 n st) := hideIt (by unfold MayF MayK L9.May L10.May L11.May L12.May L13.May; omega)
        go_enter Tryz.func7, Tryz.ntmps7
        go_wp2_with fail
        all_goals first
          | (go_ret; exact ⟨_, rfl, fun h => absurd h HM.out, fun _ => rfl, After.rfl.alloc _⟩)
          | (rename_i hq; exfalso; revert hq; simp; try omega)
      · obtain ⟨n0, n1⟩ := hn
        have HM : Hid (MayF 4 n st) := hideIt (by unfold MayF MayK L9.May L10.May L11.May L12.May L13.May; omega)
        go_enter Tryz.func7, Tryz.ntmps7
        go_wp2_with fail
        all_goals first
          | (go_ret; exact ⟨_, rfl, fun _ => rfl, fun h => absurd HM.out h, After.rfl.alloc _⟩)
          | (rename_i hq; exfalso; revert hq; simp; try omega)
    · obtain ⟨k0, k1, k2, k3, k4⟩ := hk
      have HM : Hid (¬ MayF k n st) := hideIt (by unfold MayF MayK L9.May L10.May L11.May L12.May L13.May; omega)
      go_enter Tryz.func7, Tryz.ntmps7
      go_wp2_with fail
      all_goals first
        | (go_ret; exact ⟨_, rfl, fun h => absurd h HM.out, fun _ => rfl, After.rfl.alloc _⟩)
        | (rename_i hq; exfalso; revert hq; simp; try omega)
/-- The document's task lies at g: its blocks are those of S. -/
def Rk (w : World) (g : Nat) (S : Nat → Prop) (c : Cf) (s : Ts) : Prop := ∃ q vm va vs vb S1, RkX w g q vm va vs vb S1 c s ∧ ∀ i, S i ↔ Ta g q S1 i
theorem Rk.lt {w : World} {g : Nat} {S : Nat → Prop} {c : Cf} {s : Ts} (x : Rk w g S c s) : ∀ i, S i → i < w.heap.size := by
  obtain ⟨q, vm, va, vs, vb, S1, x, hs⟩ := x
  intro i hi
  rcases (hs i).1 hi with rfl | rfl | h
  · exact x.lt
  · exact x.lap.lt
  · exact x.ins.lt i h
theorem Rk.but {T : Nat → Prop} {w w' : World} {g : Nat} {S : Nat → Prop} {c : Cf} {s : Ts} (x : Rk w g S c s) (b : But T w w') (hn : ∀ i, S i → ¬ T i) : Rk w' g S c s := by
  obtain ⟨q, vm, va, vs, vb, S1, x, hs⟩ := x
  exact ⟨q, vm, va, vs, vb, S1, x.but b (hn g ((hs g).2 (.inl rfl))) (hn q ((hs q).2 (.inr (.inl rfl)))) (fun i hi => hn i ((hs i).2 (.inr (.inr hi)))), hs⟩
theorem Rk.after {w w' : World} {g : Nat} {S : Nat → Prop} {c : Cf} {s : Ts} (x : Rk w g S c s) (a : After w w') : Rk w' g S c s := x.but a (fun _ _ t => t)
theorem rkStep {w : World} {g : Nat} {S : Nat → Prop} {c : Cf} {s : Ts} (x : Rk w g S c s) (hll : s.ins.l.length + 64 < 17592186044415) (t : Int) (a : Option Addr) (n d : Nat) (l : List Rl) (hr : RRow w a n l) (hna : ∀ y, a = some y → 0 < n → ¬ S y.block) : Calls Tryz.prog 10 #[Ptr g, .int .i64 t, .slice a n d] w fun e w' => e = .returned (.tuple #[.agg #[.int .i64 (s.out c t l).s, .int .i64 (s.out c t l).v], .int .i64 (s.err t l)]) ∧ ∃ S', Rk w' g S' c (s.go c t l) ∧ (∀ i, S' i → S i ∨ w.heap.size ≤ i) ∧ But S w w' := by
  obtain ⟨q, vm, va, vs, vb, S1, x, hs⟩ := x
  unfold Ts.out Ts.go
  by_cases he : s.err t l = 0
  · rw [if_pos he, if_pos he, he]
    refine (rkStep_yes x t a n d l hr (fun y hy h0 h => hna y hy h0 ((hs _).2 h)) he hll).mono ?_
    rintro e w' ⟨rfl, vm', va', vs', vb', S', x', h1, h2⟩
    refine ⟨rfl, Ta g q S', ⟨q, vm', va', vs', vb', S', x', fun i => Iff.rfl⟩, fun i hi => ?_, h2.mono (fun i _ h => (hs i).2 h)⟩
    rcases hi with rfl | rfl | h
    · exact .inl ((hs _).2 (.inl rfl))
    · exact .inl ((hs _).2 (.inr (.inl rfl)))
    · exact (h1 i h).imp (fun h => (hs i).2 (.inr (.inr h))) id
  · rw [if_neg he, if_neg he]
    refine (rkStep_no x t a n d l hr he).mono ?_
    rintro e w' ⟨rfl, h1⟩
    exact ⟨rfl, S, ⟨q, vm, va, vs, vb, S1, x.after h1, hs⟩, new_in, h1.but⟩
theorem rkStep_nil (w : World) (t : Int) (a : Option Addr) (n d : Nat) : Calls Tryz.prog 10 #[.pointer none, .int .i64 t, .slice a n d] w fun e w' => e = .returned (.tuple #[.agg #[.int .i64 0, .int .i64 0], .int .i64 1]) ∧ After w w' := by
  go_enter Tryz.func10, Tryz.ntmps10
  go_wp2_with fail
  exact bodyPost_ret (v := .tuple #[.agg #[.int .i64 0, .int .i64 0], .int .i64 1]) (by simp [results, Tryz.results10, go_sem]) rfl ⟨rfl, After.rfl.alloc _⟩
theorem refNew_no (w : World) (k n st : Int) (h : ¬ MayF k n st) : Calls Tryz.prog 5 #[.agg #[.int .i64 k, .int .i64 n, .int .i64 st]] w fun e w' => e = .returned (.tuple #[.pointer none, .int .i64 2]) ∧ After w w' := by
  have H : Hid (∀ W, Calls Tryz.prog 7 #[.agg #[.int .i64 k, .int .i64 n, .int .i64 st]] W fun e w' => e = .returned (.int .i64 2) ∧ After W w') := fun W => (refCheckE W k n st).mono (by
    rintro e w' ⟨E, rfl, _, h2, a⟩
    rw [h2 h]
    exact ⟨rfl, a⟩)
  clear h
  go_enter Tryz.func5, Tryz.ntmps5
  go_wp2_with fail
  refine (H.out _).mono ?_
  rintro e w1 ⟨rfl, a1⟩
  go_wp2_with fail
  go_ret2
  exact ⟨rfl, (After.rfl.alloc _).trans a1⟩
set_option maxHeartbeats 1000000 in
theorem refNew_ok (w : World) (c : Cf) (h : c.Ok) : Calls Tryz.prog 5 #[fVal c.k c.n c.st] w fun e w' => ∃ g S, e = .returned (.tuple #[Ptr g, .int .i64 0]) ∧ Rk w' g S c Ts.new ∧ (∀ i, S i → w.heap.size ≤ i) ∧ After w w' := by
  have H : Hid (∀ W, Calls Tryz.prog 7 #[.agg #[.int .i64 c.k, .int .i64 c.n, .int .i64 c.st]] W fun e w' => e = .returned (.int .i64 0) ∧ After W w') := fun W => (refCheckE W c.k c.n c.st).mono (by
    rintro e w' ⟨E, rfl, h1, _, a⟩
    rw [h1 h.mayF]
    exact ⟨rfl, a⟩)
  have HL := hideIt (fun W => L13.rpNew_ok W c.st h.mayF.2)
  have HO := hideIt h
  clear h
  go_enter Tryz.func5, Tryz.ntmps5
  go_wp2_with fail
  refine (H.out _).mono ?_
  rintro e w1 ⟨rfl, a1⟩
  have k0 := a1.cell (g := w.heap.size) (by simp) 0
  have k1 := a1.cell (g := w.heap.size) (by simp) 1
  have k2 := a1.cell (g := w.heap.size) (by simp) 2
  have hlt : w.heap.size < w1.heap.size := Nat.lt_of_lt_of_le (by simp) a1.size
  have HA := hideIt ((After.rfl.alloc _).trans a1)
  clear a1
  go_wp2_with fail
  generalize hW2 : World.alloc w1 _ = w2
  have hb2 := (show w2.heap[w1.heap.size]? = _ from hW2 ▸ heap_alloc_new w1 _)
  have a2 : After w1 w2 := hW2 ▸ After.rfl.alloc _
  have hs2 : w2.heap.size = w1.heap.size + 1 := by rw [← hW2]; simp
  have HW := hideIt (And.intro hb2 (And.intro a2 hs2))
  clear hW2 hb2 a2 hs2 k0 k1 k2 hlt
  refine (HL.out _).mono ?_
  rintro e w3 ⟨rfl, rfl⟩
  have b3 := old_blk' (After.rfl.alloc (.cells #[.int .i64 (c.st : Int), .bool false, .int .i64 0, .bool false] 95)) HW.out.1
  have l3 := heap_alloc_new w2 (.cells #[.int .i64 (c.st : Int), .bool false, .int .i64 0, .bool false] 95)
  generalize hW3 : World.alloc w2 (.cells #[.int .i64 (c.st : Int), .bool false, .int .i64 0, .bool false] 95) = w3 at *
  have a3 : After w2 w3 := hW3 ▸ After.rfl.alloc _
  have d4 := blk_cell b3 (i := 4) rfl
  have t4 := blk_soft b3 4
  have hne : w1.heap.size ≠ w2.heap.size := by have := HW.out.2.2; omega
  have xb : RkB (w3.setCell ⟨w1.heap.size, 4, none⟩ (Ptr w2.heap.size)) w1.heap.size w2.heap.size (.pointer none) (.pointer none) (.pointer none) (.pointer none) c Ts.new :=
    ⟨blk_put b3 4 (Ptr w2.heap.size), (L13.rp_new l3 HO.out.st1 HO.out.st2).but (but_one w3 w1.heap.size 4 _) (fun e => hne e.symm), HO.out, hne, Int.le_refl 0⟩
  have H5 := hideIt (rkAnew xb)
  have HV := hideIt (And.intro a3 hne)
  clear xb a3 hne l3 b3 hW3
  go_wp2_with fail
  refine H5.out.mono ?_
  rintro e w5 ⟨rfl, vm, va, vs, vb, S', x5, hS5, b5⟩
  have HZ := hideIt (And.intro x5 (And.intro hS5 b5))
  clear x5 hS5 b5 H5 d4 t4
  go_wp2_with fail
  go_ret2
  obtain ⟨x5, hS5, b5⟩ := HZ.out
  have z0 := HA.out.size
  have z1 := HW.out.2.1.size
  have z2 := HV.out.1.size
  have hz : (w3.setCell ⟨w1.heap.size, 4, none⟩ (Ptr w2.heap.size)).heap.size = w3.heap.size := by simp
  have hlw : w.heap.size ≤ w1.heap.size := z0
  refine ⟨w1.heap.size, Ta w1.heap.size w2.heap.size S', rfl, ⟨_, _, _, _, _, S', x5, fun i => Iff.rfl⟩, fun i hi => ?_, ?_⟩
  · rcases hi with rfl | rfl | h
    · exact hlw
    · omega
    · have := hS5 i h; omega
  · have b6 : But (One w1.heap.size) w3 (w3.setCell ⟨w1.heap.size, 4, none⟩ (Ptr w2.heap.size)) := but_one w3 _ 4 _
    exact ((HA.out.trans (HW.out.2.1.trans HV.out.1)).then b6 (fun i hi e => by cases e; omega)).then b5 (fun i hi e => by cases e; omega)
end Go.Proofs.YtgapnimicaopcaaGreat
