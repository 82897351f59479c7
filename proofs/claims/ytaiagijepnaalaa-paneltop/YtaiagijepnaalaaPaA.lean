/-
  Package panel: a signal of a state, the document's, too; the graver one of two sights.
-/
import Derived.Test.YtaiagijepnaalaaPaP
import Derived.Test.YtaiagijepnaalaaFoA
import Derived.Laws.ResultCell
import Derived.Deep.MidRow
namespace Go.Proofs.Ytaiagijepnaalaa
open Go.RowKit
set_option maxRecDepth 8000
abbrev As.v (x : As) : Value := .agg #[.int .i64 x.ph, .int .i64 x.pr, .int .i64 x.si, .int .i64 x.pa]
abbrev Sg.cs (x : Sg) : Array Value := #[.bool x.sh, .bool x.so, .int .i64 x.pr]
abbrev Sg.v (x : Sg) : Value := .agg x.cs
abbrev St.cs (x : St) : Array Value := #[.bool x.sh, .int .i64 x.pr]
abbrev St.v (x : St) : Value := .agg x.cs
theorem shown_ways (x : As) : (decide x.Shown = true ∧ (x.ph = 1 ∨ x.ph = 2 ∨ x.ph = 3) ∧ 1 ≤ x.pr ∧ x.pr ≤ 3 ∧ x.pa = 0) ∨ (decide x.Shown = false ∧ (x.ph = 1 ∨ x.ph = 2 ∨ x.ph = 3) ∧ ¬ 1 ≤ x.pr) ∨ (decide x.Shown = false ∧ (x.ph = 1 ∨ x.ph = 2 ∨ x.ph = 3) ∧ 1 ≤ x.pr ∧ ¬ x.pr ≤ 3) ∨ (decide x.Shown = false ∧ (x.ph = 1 ∨ x.ph = 2 ∨ x.ph = 3) ∧ 1 ≤ x.pr ∧ x.pr ≤ 3 ∧ ¬ x.pa = 0) ∨ (decide x.Shown = false ∧ ¬ x.ph = 1 ∧ ¬ x.ph = 2 ∧ ¬ x.ph = 3) := by
  simp only [decide_eq_true_eq, decide_eq_false_iff_not]
  unfold As.Shown As.Known
  omega
theorem isShown_any (w : World) (x : As) : Calls Try.prog 19 #[x.v] w fun e w' => e = .returned (.bool (decide x.Shown)) ∧ After w w' := by
  have H := shown_ways x
  unfold As.v
  generalize decide x.Shown = M at *
  generalize x.ph = H0 at *
  generalize x.pr = P at *
  generalize x.si = S at *
  generalize x.pa = A at *
  rcases H with ⟨hm, h0, h1, h2, h3⟩ | ⟨hm, h0, h1⟩ | ⟨hm, h0, h1, h2⟩ | ⟨hm, h0, h1, h2, h3⟩ | ⟨hm, h1, h2, h3⟩
  · subst hm h3
    rcases h0 with rfl | rfl | rfl
    all_goals
      go_enter Try.func19, Try.ntmps19
      go_wp2
      go_ret
      exact ⟨rfl, After.rfl.alloc _⟩
  · subst hm
    rcases h0 with rfl | rfl | rfl
    all_goals
      go_enter Try.func19, Try.ntmps19
      go_wp2
      go_ret
      exact ⟨rfl, After.rfl.alloc _⟩
  · subst hm
    rcases h0 with rfl | rfl | rfl
    all_goals
      go_enter Try.func19, Try.ntmps19
      go_wp2
      go_ret
      exact ⟨rfl, After.rfl.alloc _⟩
  · subst hm
    have hb : (A == 0) = false := by simpa using h3
    clear h3
    rcases h0 with rfl | rfl | rfl
    all_goals
      go_enter Try.func19, Try.ntmps19
      go_wp2
      go_ret
      exact ⟨rfl, After.rfl.alloc _⟩
  · subst hm
    have b1 : (H0 == 1) = false := by simpa using h1
    have b2 : (H0 == 2) = false := by simpa using h2
    have b3 : (H0 == 3) = false := by simpa using h3
    clear h1 h2 h3
    go_enter Try.func19, Try.ntmps19
    go_wp2
    go_ret
    exact ⟨rfl, After.rfl.alloc _⟩
theorem sgOf_yes {x : As} (h : decide x.Shown = true) : sgOf x = ⟨true, x.ph != 2, x.pr⟩ := if_pos (of_decide_eq_true h)
theorem sgOf_no {x : As} (h : decide x.Shown = false) : sgOf x = Sg.zero := if_neg (of_decide_eq_false h)
theorem alloc_two (w : World) (o1 o2 : Obj) : ((w.alloc o1).alloc o2).heap[w.heap.size]? = some o1 ∧ ((w.alloc o1).alloc o2).heap[w.heap.size + 1]? = some o2 ∧ After w ((w.alloc o1).alloc o2) := by
  have e : (w.alloc o1).heap.size = w.heap.size + 1 := by simp
  refine ⟨?_, ?_, (After.rfl.alloc _).alloc _⟩
  · rw [Below.heap_alloc _ _ _ (by rw [e]; omega)]
    exact heap_alloc_new w o1
  · rw [← e]
    exact heap_alloc_new _ o2
theorem After.at {w w' : World} (h : After w w') {g : Nat} {o : Obj} (ho : w.heap[g]? = some o) : w'.heap[g]? = some o := (h.block g (blk_lt ho) (fun t => t)).trans ho
theorem put3 {w : World} {g : Nat} {a b c : Value} {T : TypeId} (h : w.heap[g]? = some (.cells #[a, b, c] T (0, 0))) (x y z : Value) :
    (((w.setCell ⟨g, 0, none⟩ x).setCell ⟨g, 1, none⟩ y).setCell ⟨g, 2, none⟩ z).heap[g]? = some (.cells #[x, y, z] T (0, 0)) := blk_put (blk_put (blk_put h 0 x) 1 y) 2 z
theorem put2 {w : World} {g : Nat} {a b : Value} {T : TypeId} (h : w.heap[g]? = some (.cells #[a, b] T (0, 0))) (x y : Value) :
    ((w.setCell ⟨g, 0, none⟩ x).setCell ⟨g, 1, none⟩ y).heap[g]? = some (.cells #[x, y] T (0, 0)) := blk_put (blk_put h 0 x) 1 y
theorem blk_range {w : World} {g : Nat} {cs : Array Value} {T : TypeId} (hb : w.heap[g]? = some (.cells cs T (0, 0))) : w.rangeAt g 0 cs.toList := fun j v hv => by
  rw [Nat.zero_add]
  exact blk_cell hb (by simpa using hv)
/-- A whole block is read. -/
theorem load_blk {w : World} {g : Nat} {cs : Array Value} {T T' : TypeId} {d : TypeDesc} (hb : w.heap[g]? = some (.cells cs T' (0, 0))) (hu : Try.prog.underlying T = some d) (hd : d.isRow = true) (hi : (Try.prog.info? T).map (·.size) = some cs.size) :
    (loadVar T ⟨g, 0, none⟩).run Try.prog w = .ok (.agg cs) w := by
  have := run_loadVar_mid (P := Try.prog) w g 0 T cs.toList d (blk_range hb) hu hd (by simpa using hi)
  simpa using this
/-- A result that lies in a cell, of whatever size. -/
theorem ret_cell {F : Func} {R : Ending → World → Prop} {a : Act} {w : World} {p : Tmp} {T T' : TypeId} {g : Nat} {cs : Array Value} {d : TypeDesc} (hr : F.results = #[.cell p T]) (hp : a.tmps.getD p undef = Ptr g) (hb : w.heap[g]? = some (.cells cs T' (0, 0)))
    (hu : Try.prog.underlying T = some d) (hd : d.isRow = true) (hi : (Try.prog.info? T).map (·.size) = some cs.size) (hf : a.defers = []) (hR : R (.returned (.agg cs)) w) : bodyPost Try.prog F R .ret a w := by
  refine bodyPost_ret (v := .agg cs) ?_ hf hR
  have hl := load_blk hb hu hd hi
  have hp' : a.tmps[p]?.getD undef = Ptr g := by simpa using hp
  simp only [results, hr]
  simp [hp', asAddr, hl]
/-- Two results, the first one in a cell. -/
theorem ret_cell2 {F : Func} {R : Ending → World → Prop} {a : Act} {w : World} {p q : Tmp} {T T' : TypeId} {g : Nat} {cs : Array Value} {d : TypeDesc} {x : Value} (hr : F.results = #[.cell p T, .tmp q]) (hp : a.tmps.getD p undef = Ptr g) (hq : a.tmps.getD q undef = x) (hb : w.heap[g]? = some (.cells cs T' (0, 0)))
    (hu : Try.prog.underlying T = some d) (hd : d.isRow = true) (hi : (Try.prog.info? T).map (·.size) = some cs.size) (hf : a.defers = []) (hR : R (.returned (.tuple #[.agg cs, x])) w) : bodyPost Try.prog F R .ret a w := by
  refine bodyPost_ret (v := .tuple #[.agg cs, x]) ?_ hf hR
  have hl := load_blk hb hu hd hi
  rw [results_cell_tmp hr, hp, hq]
  simp [asAddr, Result.andThen, hl]
theorem Try.infoSg : (Try.prog.info? 25).map (·.size) = some 3 := by kernel_rfl
theorem Try.infoSt : (Try.prog.info? 47).map (·.size) = some 2 := by kernel_rfl
theorem signal_any (w : World) (x : As) : Calls Try.prog 11 #[x.v] w fun e w' => e = .returned (sgOf x).v ∧ After w w' := by
  have HI := hideIt (fun V => isShown_any V x)
  have HO := hideIt (alloc_two w (.cells #[.int .i64 x.ph, .int .i64 x.pr, .int .i64 x.si, .int .i64 x.pa] 35) (.cells #[.bool false, .bool false, .int .i64 0] 25))
  have HS := hideIt (And.intro (@sgOf_yes x) (@sgOf_no x))
  generalize decide x.Shown = M at *
  generalize sgOf x = R at *
  go_enter Try.func11, Try.ntmps11
  go_wp2_with fail
  generalize ((w.alloc _).alloc _ : World) = w0 at *
  refine (HI.out w0).mono ?_
  rintro e w1 ⟨rfl, a1⟩
  have hx := After.at a1 HO.out.1
  have hz := After.at a1 HO.out.2.1
  have c0 := blk_cell (i := 0) (v := .int .i64 x.ph) hx rfl
  have c1 := blk_cell (i := 1) (v := .int .i64 x.pr) hx rfl
  have z0 := blk_cell (i := 0) (v := .bool false) hz rfl
  have z1 := blk_cell (i := 1) (v := .bool false) hz rfl
  have z2 := blk_cell (i := 2) (v := .int .i64 0) hz rfl
  have y0 := blk_soft hz 0
  have y1 := blk_soft hz 1
  have y2 := blk_soft hz 2
  have HZ := hideIt hz
  have A1 := hideIt (HO.out.2.2.trans a1)
  clear hx hz a1 HI HO
  cases M
  · have e0 := HS.out.2 rfl
    subst e0
    clear HS
    go_wp2
    refine ret_cell Try.results11 rfl (put3 HZ.out _ _ _) Try.underlying25 rfl Try.infoSg rfl ⟨rfl, ?_⟩
    exact ((A1.out.set ⟨w.heap.size + 1, 0, none⟩ (by simp) _).set ⟨w.heap.size + 1, 1, none⟩ (by simp) _).set ⟨w.heap.size + 1, 2, none⟩ (by simp) _
  · have e0 := HS.out.1 rfl
    subst e0
    clear HS
    go_wp2
    refine ret_cell Try.results11 rfl (put3 HZ.out _ _ _) Try.underlying25 rfl Try.infoSg rfl ⟨rfl, ?_⟩
    exact ((A1.out.set ⟨w.heap.size + 1, 0, none⟩ (by simp) _).set ⟨w.heap.size + 1, 1, none⟩ (by simp) _).set ⟨w.heap.size + 1, 2, none⟩ (by simp) _
set_option maxHeartbeats 1000000 in
theorem refSignal_any (w : World) (x : As) : Calls Try.prog 12 #[x.v] w fun e w' => e = .returned (sgOf x).v ∧ After w w' := by
  have HO := hideIt (alloc_two w (.cells #[.int .i64 x.ph, .int .i64 x.pr, .int .i64 x.si, .int .i64 x.pa] 35) (.cells #[.bool false, .bool false, .int .i64 0] 25))
  have HS := hideIt (And.intro (@sgOf_yes x) (@sgOf_no x))
  have H := shown_ways x
  unfold As.v
  generalize decide x.Shown = M at *
  generalize sgOf x = R at *
  generalize x.ph = H0 at *
  generalize x.pr = P at *
  generalize x.si = S at *
  generalize x.pa = A at *
  rcases H with ⟨hm, h0, h1, h2, h3⟩ | ⟨hm, h0, h1⟩ | ⟨hm, h0, h1, h2⟩ | ⟨hm, h0, h1, h2, h3⟩ | ⟨hm, h1, h2, h3⟩
  · have e0 := HS.out.1 hm
    subst e0 hm h3
    clear HS
    rcases h0 with rfl | rfl | rfl
    all_goals
      go_enter Try.func12, Try.ntmps12
      go_wp2
      refine ret_cell Try.results12 rfl (alloc_two _ _ _).2.1 Try.underlying25 rfl Try.infoSg rfl ⟨rfl, ?_⟩
      exact (After.rfl.alloc _).alloc _
  · have e0 := HS.out.2 hm
    subst e0 hm
    clear HS
    rcases h0 with rfl | rfl | rfl
    all_goals
      go_enter Try.func12, Try.ntmps12
      go_wp2
      refine ret_cell Try.results12 rfl (alloc_two _ _ _).2.1 Try.underlying25 rfl Try.infoSg rfl ⟨rfl, ?_⟩
      exact (After.rfl.alloc _).alloc _
  · have e0 := HS.out.2 hm
    subst e0 hm
    clear HS
    rcases h0 with rfl | rfl | rfl
    all_goals
      go_enter Try.func12, Try.ntmps12
      go_wp2
      refine ret_cell Try.results12 rfl (alloc_two _ _ _).2.1 Try.underlying25 rfl Try.infoSg rfl ⟨rfl, ?_⟩
      exact (After.rfl.alloc _).alloc _
  · have e0 := HS.out.2 hm
    subst e0 hm
    have hb : (A != 0) = true := by simpa using h3
    clear HS h3
    rcases h0 with rfl | rfl | rfl
    all_goals
      go_enter Try.func12, Try.ntmps12
      go_wp2
      refine ret_cell Try.results12 rfl (alloc_two _ _ _).2.1 Try.underlying25 rfl Try.infoSg rfl ⟨rfl, ?_⟩
      exact (After.rfl.alloc _).alloc _
  · have e0 := HS.out.2 hm
    subst e0 hm
    have b1 : (H0 == 1) = false := by simpa using h1
    have b2 : (H0 == 2) = false := by simpa using h2
    have b3 : (H0 == 3) = false := by simpa using h3
    clear HS h1 h2 h3
    go_enter Try.func12, Try.ntmps12
    go_wp2
    refine ret_cell Try.results12 rfl (alloc_two _ _ _).2.1 Try.underlying25 rfl Try.infoSg rfl ⟨rfl, ?_⟩
    exact (After.rfl.alloc _).alloc _
theorem alloc_three (w : World) (o1 o2 o3 : Obj) : (((w.alloc o1).alloc o2).alloc o3).heap[w.heap.size]? = some o1 ∧ (((w.alloc o1).alloc o2).alloc o3).heap[w.heap.size + 1]? = some o2 ∧ (((w.alloc o1).alloc o2).alloc o3).heap[w.heap.size + 1 + 1]? = some o3 ∧ After w (((w.alloc o1).alloc o2).alloc o3) := by
  obtain ⟨h1, h2, h3⟩ := alloc_two w o1 o2
  have e : ((w.alloc o1).alloc o2).heap.size = w.heap.size + 1 + 1 := by simp
  refine ⟨?_, ?_, ?_, h3.alloc _⟩
  · rw [Below.heap_alloc _ _ _ (by rw [e]; omega)]; exact h1
  · rw [Below.heap_alloc _ _ _ (by rw [e]; omega)]; exact h2
  · rw [← e]; exact heap_alloc_new _ o3
theorem worse_any (w : World) (x y : St) : Calls Try.prog 22 #[x.v, y.v] w fun e w' => e = .returned (wor x y).v ∧ After w w' := by
  have H : (wor x y = y ∧ x.sh = false) ∨ (wor x y = y ∧ x.sh = true ∧ y.sh = true ∧ x.pr < y.pr) ∨ (wor x y = x ∧ x.sh = true ∧ y.sh = true ∧ ¬ x.pr < y.pr) ∨ (wor x y = x ∧ x.sh = true ∧ y.sh = false) := by
    unfold wor
    obtain ⟨xs, xp⟩ := x
    obtain ⟨ys, yp⟩ := y
    cases xs <;> cases ys <;> simp
    omega
  have HX := hideIt (show x.v = .agg #[.bool x.sh, .int .i64 x.pr] from rfl)
  have HY := hideIt (show y.v = .agg #[.bool y.sh, .int .i64 y.pr] from rfl)
  generalize wor x y = R at *
  unfold St.v St.cs
  rcases H with ⟨rfl, h1⟩ | ⟨rfl, h1, h2, h3⟩ | ⟨rfl, h1, h2, h3⟩ | ⟨rfl, h1, h2⟩
  all_goals
    go_enter Try.func22, Try.ntmps22
    go_wp2
    refine ret_cell Try.results22 rfl (alloc_three _ _ _ _).2.2.1 Try.underlying47 rfl Try.infoSt rfl ⟨?_, ?_⟩
    · first | rfl | simp [h1]
    · exact (alloc_three _ _ _ _).2.2.2
end Go.Proofs.Ytaiagijepnaalaa
