/-
  The reader by its words: next, must, takes, add, pair; what is laid.
-/
import Derived.Test.YtlfcihanhfabmaaGreatDoorNtA
import Derived.Test.YtlfcihanhfabmaaGreatDoorShelf
namespace Go.Proofs.YtlfcihanhfabmaaGreatDoor
open Go.RowKit
set_option maxRecDepth 8000
open L1 (S)
/-- What the row lays: the library's table, and two errors. -/
structure Laid (w : World) : Prop where
  tab : Lib.TabIs Tryz.prog w "internal/strconv.uint64pow10" .u64 Lib.pow10Tab
  syn : ∃ ev, w.cell? ⟨4, 0, none⟩ = some ev ∧ (ev = .nilIface ∨ ∃ te pe, ev = .iface te pe)
  rng : ∃ ev, w.cell? ⟨5, 0, none⟩ = some ev ∧ (ev = .nilIface ∨ ∃ te pe, ev = .iface te pe)
theorem Laid.on {w w' : World} (h : Laid w) (a : After w w') : Laid w' := by
  refine ⟨Lib.tabBelow_of_tabIs h.tab w' a.below, ?_, ?_⟩
  · obtain ⟨ev, h1, h2⟩ := h.syn
    exact ⟨ev, (a.cell (cell_lt h1) 0).trans h1, h2⟩
  · obtain ⟨ev, h1, h2⟩ := h.rng
    exact ⟨ev, (a.cell (cell_lt h1) 0).trans h1, h2⟩
theorem S_eq (a b : W8) : ((S a).toList == (S b).toList) = decide (a = b) := by
  rw [ByteArray.toList_eq, ByteArray.toList_eq, L1.S_list, L1.S_list]
  by_cases h : a = b
  · simp [h]
  · rw [decide_eq_false h]; simpa using h
theorem S_yes {a b : W8} (h : a = b) : ((S a).toList == (S b).toList) = true := by rw [S_eq]; simpa using h
theorem S_no {a b : W8} (h : ¬ a = b) : ((S a).toList == (S b).toList) = false := by rw [S_eq]; simpa using h
theorem lex_ne : ∀ (s : W8) (p : Nat) (t : Nat × W8), t ∈ lex p s → t.2 ≠ []
  | [], _, _, h => by simp [lex] at h
  | c :: s, p, t, h => by
    have ih := lex_ne s (p + 1)
    unfold lex at h
    split at h
    · exact ih t h
    split at h
    · unfold glue at h
      split at h
      · simp at h; rw [h]; simp
      · rename_i t0 r he
        rcases List.mem_cons.1 h with rfl | h'
        · simp
        · exact ih t (by rw [he]; exact List.mem_cons_of_mem _ h')
    · rcases List.mem_cons.1 h with rfl | h'
      · simp
      · exact ih t h'
/-- These are the last words of the text. -/
structure Cur (s : W8) (ts : List (Nat × W8)) : Prop where
  tail : ∃ pre, lex 0 s = pre ++ ts
  le : pl s.length ts + (hdT ts).length ≤ s.length
  rest : lex (pl s.length ts + (hdT ts).length) (s.drop (pl s.length ts + (hdT ts).length)) = ts.tail
theorem Cur.ne {s : W8} {ts : List (Nat × W8)} (h : Cur s ts) : ∀ t ∈ ts, t.2 ≠ [] := fun t ht => by
  obtain ⟨pre, e⟩ := h.tail
  exact lex_ne s 0 t (by rw [e]; exact List.mem_append_right _ ht)
theorem Cur.plc {s : W8} {ts : List (Nat × W8)} (h : Cur s ts) : plc s ts.length = pl s.length ts := by
  obtain ⟨pre, e⟩ := h.tail
  unfold YtlfcihanhfabmaaGreatDoor.plc
  rw [e, List.length_append, Nat.add_sub_cancel, List.drop_left]
theorem cur_of {s : W8} {ts : List (Nat × W8)} {i : Nat} (hi : i ≤ s.length) (ht : ∃ pre, lex 0 s = pre ++ ts) (hl : lex i (s.drop i) = ts) :
    pl s.length ts = i + blanks (s.drop i) ∧ hdT ts = (s.drop (i + blanks (s.drop i))).take (wordN (s.drop (i + blanks (s.drop i)))) ∧ Cur s ts := by
  have hb := blanks_le (s.drop i)
  rw [List.length_drop] at hb
  have hz := blanks_drop (s.drop i)
  have hmle : i + blanks (s.drop i) ≤ s.length := by omega
  rw [lex_blanks, List.drop_drop] at hl
  rw [List.drop_drop] at hz
  generalize i + blanks (s.drop i) = m at *
  by_cases h0 : s.drop m = []
  · have hm : m = s.length := by have := List.drop_eq_nil_iff.1 h0; omega
    rw [h0] at hl ⊢
    have e : ts = [] := by rw [← hl]; rfl
    subst e
    refine ⟨hm.symm, rfl, ht, ?_, ?_⟩
    · simp [pl, hdT]
    · simp [pl, hdT, lex]
  · rw [lex_word m _ hz h0] at hl
    have hw := wordN_le (s.drop m)
    rw [List.length_drop] at hw
    have hml : m < s.length := by
      rcases Nat.lt_or_ge m s.length with h | h
      · exact h
      · exact absurd (List.drop_eq_nil_iff.2 h) h0
    have el : ((s.drop m).take (wordN (s.drop m))).length = wordN (s.drop m) := by rw [List.length_take, List.length_drop]; omega
    subst hl
    refine ⟨rfl, rfl, ht, ?_, ?_⟩
    · show m + ((s.drop m).take (wordN (s.drop m))).length ≤ s.length
      rw [el]; omega
    · show lex (m + ((s.drop m).take (wordN (s.drop m))).length) (s.drop (m + ((s.drop m).take (wordN (s.drop m))).length)) = _
      rw [el, List.drop_drop]
      rfl
theorem lex_few : ∀ (s : W8) (p : Nat), (lex p s).length ≤ s.length
  | [], _ => by simp [lex]
  | c :: s, p => by
    have ih := lex_few s (p + 1)
    unfold lex
    split
    · simp; omega
    split
    · unfold glue
      split
      · simp
      · rename_i he
        rw [he] at ih
        simp at ih ⊢; omega
    · simp; omega
/-- A reader at g, with these words left. -/
structure RdX (w0 w : World) (g : Nat) (s : W8) (d : Nat) (v : Value) (ts : List (Nat × W8)) (ns : List Nd) : Prop where
  m : RdM w0 w g s (pl s.length ts) (hdT ts) d v ns
  len : s.length ≤ 1024
  cur : Cur s ts
  few : ns.length + ts.length ≤ 1024
  laid : Laid w0
  deep : d ≤ 32
theorem RdX.but {S : Nat → Prop} {w0 w w' : World} {g : Nat} {s : W8} {d : Nat} {v : Value} {ts : List (Nat × W8)} {ns : List Nd} (x : RdX w0 w g s d v ts ns) (b : But S w w') (hg : ¬ S g) (hv : ∀ k, v.ownBlock = some k → ¬ S k) (h0 : ∀ k, k < w0.heap.size → ¬ S k) : RdX w0 w' g s d v ts ns :=
  { x with m := x.m.but b hg hv h0 }
theorem RdX.after {w0 w w' : World} {g : Nat} {s : W8} {d : Nat} {v : Value} {ts : List (Nat × W8)} {ns : List Nd} (x : RdX w0 w g s d v ts ns) (b : After w w') : RdX w0 w' g s d v ts ns := { x with m := x.m.after b }
theorem RdX.aft {w0 w : World} {g : Nat} {s : W8} {d : Nat} {v : Value} {ts : List (Nat × W8)} {ns : List Nd} (x : RdX w0 w g s d v ts ns) : After w0 w := x.m.aft
theorem RdX.now {w0 w : World} {g : Nat} {s : W8} {d : Nat} {v : Value} {ts : List (Nat × W8)} {ns : List Nd} (x : RdX w0 w g s d v ts ns) : Laid w := x.laid.on x.aft
/-- The first word is read over. -/
theorem start_any {w0 w : World} {g : Nat} {s : W8} (x : RdM w0 w g s 0 [] 0 (.slice none 0 0) []) (hs : s.length ≤ 1024) (hl : Laid w0) :
    Calls Tryz.prog 48 #[Ptr g] w fun e w' => e = .returned (.tuple #[]) ∧ RdX w0 w' g s 0 (.slice none 0 0) (lex 0 s) [] ∧ But (One g) w w' := by
  refine (next_any x (by simp) hs).mono ?_
  rintro e w' ⟨rfl, i, b, n, hi, hb, hn, y, bw⟩
  have hi0 : i = 0 := by simpa using hi
  subst hi0 hb hn
  obtain ⟨h1, h2, h3⟩ := cur_of (s := s) (i := 0) (Nat.zero_le _) ⟨[], rfl⟩ (by rw [List.drop_zero])
  rw [← h2, ← h1] at y
  exact ⟨rfl, ⟨y, hs, h3, by have := lex_few s 0; simp; omega, hl, by omega⟩, bw⟩
theorem rdNext_any {w0 w : World} {g : Nat} {s : W8} {d : Nat} {v : Value} {ts : List (Nat × W8)} {ns : List Nd} (x : RdX w0 w g s d v ts ns) :
    Calls Tryz.prog 48 #[Ptr g] w fun e w' => e = .returned (.tuple #[]) ∧ RdX w0 w' g s d v ts.tail ns ∧ But (One g) w w' := by
  refine (next_any x.m x.cur.le x.len).mono ?_
  rintro e w' ⟨rfl, i, b, n, rfl, rfl, rfl, y, bw⟩
  obtain ⟨pre, hp⟩ := x.cur.tail
  obtain ⟨h1, h2, h3⟩ := cur_of (s := s) x.cur.le (ts := ts.tail) (by
    cases ts with
    | nil => exact ⟨pre, hp⟩
    | cons t r => exact ⟨pre ++ [t], by rw [hp]; simp⟩) x.cur.rest
  rw [← h2, ← h1] at y
  exact ⟨rfl, ⟨y, x.len, h3, by have := x.few; simp; omega, x.laid, x.deep⟩, bw⟩
/-- What is thrown: a place. -/
def Plc (p : Nat) : List PanicEntry := [{ v := .iface 84 (.int .i64 (p : Int)), recovered := false }]
theorem must_yes (g : Nat) (w : World) : Calls Tryz.prog 50 #[Ptr g, .bool true] w fun e w' => e = .returned (.tuple #[]) ∧ w' = w := by
  go_enter Tryz.func50, Tryz.ntmps50
  go_wp2
  go_end0
  exact ⟨rfl, rfl⟩
theorem must_no {w0 w : World} {g : Nat} {s : W8} {at_ : Nat} {wd : W8} {d : Nat} {v : Value} {ns : List Nd} (x : RdM w0 w g s at_ wd d v ns) : Calls Tryz.prog 50 #[Ptr g, .bool false] w fun e w' => e = .panicked (Plc at_) ∧ w' = w := by
  obtain ⟨hg, c0, c1, c2, c3, c4, hz⟩ := five_at x.blk
  clear x hz
  go_enter Tryz.func50, Tryz.ntmps50
  go_wp2
  exact ⟨rfl, rfl, rfl⟩
theorem word_any (op : Int) (w : World) : Calls Tryz.prog 64 #[.int .i64 op] w fun e w' => e = .returned (.string (S (wordOf op))) ∧ w' = w := by
  rcases (by omega : op = 0 ∨ op = 1 ∨ op = 2 ∨ op = 3 ∨ op = 4 ∨ op = 5 ∨ op = 6 ∨ op = 7 ∨ op = 8 ∨ op = 9 ∨ op = 10 ∨ op = 11 ∨ (¬ op = 0 ∧ ¬ op = 1 ∧ ¬ op = 2 ∧ ¬ op = 3 ∧ ¬ op = 4 ∧ ¬ op = 5 ∧ ¬ op = 6 ∧ ¬ op = 7 ∧ ¬ op = 8 ∧ ¬ op = 9 ∧ ¬ op = 10 ∧ ¬ op = 11)) with rfl | rfl | rfl | rfl | rfl | rfl | rfl | rfl | rfl | rfl | rfl | rfl | ⟨n0, n1, n2, n3, n4, n5, n6, n7, n8, n9, n10, n11⟩
  all_goals
    try rw [show wordOf op = wSince from by unfold wordOf; simp [*]]
    go_enter Tryz.func64, Tryz.ntmps64
    go_wp2
    go_ret
    exact ⟨rfl, rfl⟩
theorem takes_any {w0 w : World} {g : Nat} {s : W8} {d : Nat} {v : Value} {ts : List (Nat × W8)} {ns : List Nd} (x : RdX w0 w g s d v ts ns) (op : Int) :
    Calls Tryz.prog 74 #[Ptr g, .int .i64 op] w fun e w' => (hdT ts = wordOf op → e = .returned (.bool true) ∧ RdX w0 w' g s d v ts.tail ns ∧ But (One g) w w') ∧ (hdT ts ≠ wordOf op → e = .returned (.bool false) ∧ After w w') := by
  obtain ⟨hg, c0, c1, c2, c3, c4, hz⟩ := five_at x.m.blk
  have HX := hideIt x
  have HW := hideIt (fun W => word_any op W)
  by_cases h : hdT ts = wordOf op
  · have e1 := S_yes h
    have HH := hideIt h
    clear x hz h
    generalize hdT ts = wd at *
    go_enter Tryz.func74, Tryz.ntmps74
    go_wp2
    go_quiet (first | (go_at_call 64; refine Calls.quiet_of_same (HW.out _)))
    go_wp2_with (go_at_call 48; refine (rdNext_any (HX.out.after (After.draws After.rfl nq))).mono ?_; rintro e w1 ⟨rfl, y, bw⟩; have HY := hideIt (And.intro y bw); clear y bw)
    go_ret
    exact ⟨fun _ => ⟨rfl, HY.out.1, (But.draws But.rfl nq).trans HY.out.2⟩, fun h => absurd HH.out h⟩
  · have e1 := S_no h
    have HH := hideIt h
    clear x hz h
    generalize hdT ts = wd at *
    go_enter Tryz.func74, Tryz.ntmps74
    go_wp2
    go_quiet (first | (go_at_call 64; refine Calls.quiet_of_same (HW.out _)))
    go_wp2
    go_ret
    exact ⟨fun h => absurd h HH.out, fun _ => ⟨rfl, After.draws After.rfl nq⟩⟩
/-- A reader has gone on: what it may have written to, and where its nodes are now. -/
structure Goes (g : Nat) (v : Value) (w : World) (v' : Value) (w' : World) : Prop where
  but : But (Own g v) w w'
  new : ∀ k, v'.ownBlock = some k → v.ownBlock = some k ∨ w.heap.size ≤ k
theorem Goes.rfl {g : Nat} {v : Value} {w : World} : Goes g v w v w := ⟨But.rfl, fun _ h => .inl h⟩
theorem Goes.trans {g : Nat} {v v1 v2 : Value} {w w1 w2 : World} (a : Goes g v w v1 w1) (b : Goes g v1 w1 v2 w2) : Goes g v w v2 w2 :=
  ⟨a.but.then b.but (fun i hi h => h.elim (fun e => .inl e) (fun e => (a.new i e).elim (fun h => .inr h) (fun h => absurd h (by omega)))), fun k hk => (b.new k hk).elim (a.new k) (fun h => .inr (Nat.le_trans a.but.size h))⟩
theorem Goes.one {g : Nat} {v : Value} {w w' : World} (b : But (One g) w w') : Goes g v w v w' := ⟨b.mono (fun _ _ h => .inl h), fun _ h => .inl h⟩
theorem Goes.after {g : Nat} {v : Value} {w w' : World} (b : After w w') : Goes g v w v w' := ⟨b.but, fun _ h => .inl h⟩
theorem Goes.ends {g : Nat} {v v1 : Value} {w w1 w2 : World} (a : Goes g v w v1 w1) (b : But (Own g v1) w1 w2) : But (Own g v) w w2 :=
  a.but.then b (fun i hi h => h.elim (fun e => .inl e) (fun e => (a.new i e).elim (fun h => .inr h) (fun h => absurd h (by omega))))
theorem Tryz.infoNode : (Tryz.prog.info? 33).map (fun i => (i.zero, i.size, i.bytes)) = some (some (.agg #[.int .i64 0, .int .i64 0, .int .i64 0, .int .i64 0]), 4, 32) := by kernel_rfl
/-- Nodes are appended to, and the reader's cell is written. -/
theorem add_end {w0 w W w2 : World} {g gg cap : Nat} {s : W8} {d : Nat} {v : Value} {ts : List (Nat × W8)} {ns : List Nd} (x : RdX w0 w g s d v ts ns) (y : Nd) (hl : ns.length + 1 + ts.length ≤ 1024) (a : After w W) (hgr : W.grownBy w2 v.ownBlock)
    (ho : w2.ownsRow w0.heap.size 33 4 (.slice (some ⟨gg, 0, none⟩) (ns.length + 1) cap) (ns.length + 1) (ndE.flat ns ++ ndE.enc y)) (hat : v.ownBlock = some gg ∨ w.heap.size ≤ gg) :
    RdX w0 (w2.setCell ⟨g, 4, none⟩ (.slice (some ⟨gg, 0, none⟩) (ns.length + 1) cap)) g s d (.slice (some ⟨gg, 0, none⟩) (ns.length + 1) cap) ts (ns ++ [y]) ∧ Goes g v w (.slice (some ⟨gg, 0, none⟩) (ns.length + 1) cap) (w2.setCell ⟨g, 4, none⟩ (.slice (some ⟨gg, 0, none⟩) (ns.length + 1) cap)) := by
  have b2 : But (fun k => v.ownBlock = some k) w w2 := a.but.then (But.grown But.rfl hgr (fun k hk _ => hk)) (fun _ _ t => t)
  have hg2 : w2.heap[g]? = some (.cells #[.string (S s), .int .i64 (pl s.length ts : Int), .string (S (hdT ts)), .int .i64 (d : Int), v] 57 (0, 0)) := (b2.block g x.m.lt (fun e => x.m.apart e)).trans x.m.blk
  have ho' : ORow ndE 33 w2 w0.heap.size (.slice (some ⟨gg, 0, none⟩) (ns.length + 1) cap) (ns ++ [y]) := by
    show w2.ownsRow _ _ _ _ (ns ++ [y]).length (ndE.flat (ns ++ [y]))
    rw [ndE.flat_append, List.length_append]
    have e : ndE.flat [y] = ndE.enc y := by simp [Enc.flat]
    rw [e]
    exact ho
  have hgg : gg ≠ g := by
    rintro rfl
    rcases ho.2 with ⟨h, _⟩ | ⟨k, c, cur, e, _, hb, _⟩
    · cases h
    · cases e
      rw [hg2] at hb
      simp at hb
  have b3 : But (Own g v) w (w2.setCell ⟨g, 4, none⟩ (.slice (some ⟨gg, 0, none⟩) (ns.length + 1) cap)) := (b2.mono (fun _ _ h => .inr h)).set ⟨g, 4, none⟩ (fun _ => .inl rfl) _
  have b4 : But (One g) w2 (w2.setCell ⟨g, 4, none⟩ (.slice (some ⟨gg, 0, none⟩) (ns.length + 1) cap)) := but_one _ _ _ _
  refine ⟨⟨⟨?_, own_but ho' b4 (fun k hk e => hgg ?_), x.m.base, x.m.aft.then b3 (fun i hi h => ?_)⟩, x.len, x.cur, by simp; omega, x.laid, x.deep⟩, b3, fun k hk => ?_⟩
  · rw [blk_put hg2]; rfl
  · have : gg = k := by simpa [Value.ownBlock] using hk
    rw [this]; exact e
  · have := x.m.base
    rcases h with h | h
    · omega
    · have := (x.m.own.lt i h).1
      omega
  · have : gg = k := by simpa [Value.ownBlock] using hk
    rw [← this]; exact hat
set_option maxHeartbeats 1000000 in
theorem add_any {w0 w : World} {g : Nat} {s : W8} {d : Nat} {v : Value} {ts : List (Nat × W8)} {ns : List Nd} (x : RdX w0 w g s d v ts ns) (y : Nd) (hl : ns.length + 1 + ts.length ≤ 1024) :
    Calls Tryz.prog 97 #[Ptr g, y.val] w fun e w' => ∃ v', e = .returned (.int .i64 (ns.length : Int)) ∧ RdX w0 w' g s d v' ts (ns ++ [y]) ∧ Goes g v w v' w' := by
  unfold Nd.val
  obtain ⟨hg, c0, c1, c2, c3, c4, hz⟩ := five_at x.m.blk
  obtain ⟨i0, hi0, hzz⟩ := Option.map_eq_some_iff.1 Tryz.infoNode
  simp only [Prod.mk.injEq] at hzz
  obtain ⟨hz0, hz1, hz2⟩ := hzz
  have HX := hideIt x
  have hz4 := hz 4
  have HL := hideIt hl
  have HN := hideIt x.m.apart
  have hB : Hid (w0.heap.size ≤ w.heap.size) := hideIt (by have := x.m.base; omega)
  have lens : Hid (ns.length ≤ 1024) := hideIt (by omega)
  have hX1 := fun o => x.after (After.rfl.alloc o)
  clear x hz hl
  go_enter Tryz.func97, Tryz.ntmps97
  go_wp2_with fail
  obtain ⟨wB, hwB⟩ : ∃ W, W = w.alloc (.cells #[.int .i64 y.op, .int .i64 y.a, .int .i64 y.b, .int .i64 y.n] 33) := ⟨_, rfl⟩
  have HX1 := hideIt (hX1 (.cells #[.int .i64 y.op, .int .i64 y.a, .int .i64 y.b, .int .i64 y.n] 33))
  have hbb : wB.heap[w.heap.size]? = some (.cells #[.int .i64 y.op, .int .i64 y.a, .int .i64 y.b, .int .i64 y.n] 33 (0, 0)) := by rw [hwB]; exact heap_alloc_new w _
  have b0 := blk_cell hbb (i := 0) rfl
  have b1 := blk_cell hbb (i := 1) rfl
  have b2 := blk_cell hbb (i := 2) rfl
  have b3 := blk_cell hbb (i := 3) rfl
  have hlb := blk_lt hbb
  have HWB : Hid (After w wB ∧ w.heap.size ≤ wB.heap.size) := hideIt (by rw [hwB]; exact ⟨After.rfl.alloc _, by simp⟩)
  rw [← hwB] at HX1 ⊢
  obtain ⟨hg1, d0, d1, d2, d3, d4, dz⟩ := five_at HX1.out.m.blk
  have dz4 := dz 4
  have hfa : ∀ o, (wB.alloc o).drew.frozen? ⟨g, 4, none⟩ = false := fun o => by
    have h := World.frozen?_of_block (w := wB) (w' := (wB.alloc o).drew) (a := ⟨g, 4, none⟩) (Below.heap_alloc _ _ _ hg1)
    rw [h]; exact dz4
  have hca : ∀ o, (wB.alloc o).drew.cell? ⟨g, 4, none⟩ = some v := fun o => by
    have h := World.cell?_of_block (w := wB) (w' := (wB.alloc o).drew) (a := ⟨g, 4, none⟩) (Below.heap_alloc _ _ _ hg1)
    rw [h]; exact d4
  clear hwB hbb dz hX1
  go_region_law
    (refine step_append_lies _ (by rfl) _ _ _ (by rfl) w0.heap.size 33 i0 _ 4 32 Tryz.underlying22 hi0 hz0 hz1 hz2 rfl (by omega) v ns.length (ndE.flat ns) (by rfl) ((HX1.out.m.own.alloc _).drew)
        ⟨wB.heap.size, 0, none⟩ 1 1 [.int .i64 y.op, .int .i64 y.a, .int .i64 y.b, .int .i64 y.n] (by rfl) (by rfl) (World.news_of_block (cs := #[_, _, _, _]) (t := 33) (fr := (0, 0)) (heap_alloc_new wB _)) (by simp [Value.oneCell'])
        (by omega) (by have := lens.out; unfold maxLen; omega) (by have := lens.out; omega) (by have := hB.out; have := HWB.out.2; simp; omega) (wB.heap.size + 1) (by simp) ?_; intro gg cap w4 hown1 hgrow hat hlt2; have x1 := (hgrow.cell_far ⟨g, 4, none⟩ (by simp; omega) (Ne.symm HN.out)).trans (hca _); have x2 := (hgrow.frozen_far ⟨g, 4, none⟩ (by simp; omega) (Ne.symm HN.out)).trans (hfa _))
  all_goals
    obtain ⟨y1, k1⟩ := add_end HX.out y HL.out ((HWB.out.1.alloc _).draws 1) hgrow hown1 (by rcases hat with h | h; exact .inl h; exact .inr (by have := HWB.out.2; omega))
    obtain ⟨W, hW⟩ : ∃ W, W = w4.setCell ⟨g, 4, none⟩ (.slice (some ⟨gg, 0, none⟩) (ns.length + 1) cap) := ⟨_, rfl⟩
    rw [← hW] at y1 k1 ⊢
    obtain ⟨q1, q2, q3, q4, q5, q6, q7⟩ := five_at y1.m.blk
    have HY := hideIt (And.intro y1 k1)
    have l1 : (ns.length : Int) + 1 ≤ 1025 := by have := lens.out; omega
    clear y1 k1 hW hgrow hown1 hat x1 x2 hca hfa q7
    go_wp2
    go_ret
    exact ⟨_, rfl, HY.out.1, HY.out.2⟩
theorem pair_any {w0 w : World} {g : Nat} {s : W8} {d : Nat} {v : Value} {ts : List (Nat × W8)} {ns : List Nd} (x : RdX w0 w g s d v ts ns) (op a b : Int) (hl : ns.length + 1 + ts.length ≤ 1024) :
    Calls Tryz.prog 75 #[Ptr g, .int .i64 op, .int .i64 a, .int .i64 b] w fun e w' => ∃ v', e = .returned (.int .i64 (ns.length : Int)) ∧ RdX w0 w' g s d v' ts (ns ++ [⟨op, a, b, 0⟩]) ∧ Goes g v w v' w' := by
  have HA := hideIt (fun W (h : After w W) => add_any (x.after h) ⟨op, a, b, 0⟩ hl)
  unfold Nd.val at HA
  clear x hl
  go_enter Tryz.func75, Tryz.ntmps75
  go_wp2_with (go_at_call 97; refine (HA.out _ After.rfl).mono ?_; rintro e w1 ⟨v', rfl, y, k⟩; have HY := hideIt (And.intro y k); clear y k)
  go_ret
  exact ⟨v', rfl, HY.out.1, HY.out.2⟩
theorem ticks_has (op : Int) (w : World) : Calls Tryz.prog 111 #[.int .i64 op] w fun e w' => e = .returned (.bool (decide (op = 10) || decide (op = 11))) ∧ w' = w := by
  go_enter Tryz.func111, Tryz.ntmps111
  go_wp2
  all_goals
    go_ret
    refine ⟨ret_bool ?_, rfl⟩
    first
      | (subst_vars; rfl)
      | (rw [Bool.eq_iff_iff]; simp)
theorem number_has (op : Int) (w : World) : Calls Tryz.prog 123 #[.int .i64 op] w fun e w' => e = .returned (.bool (decide (op = 1) || decide (op = 2))) ∧ w' = w := by
  go_enter Tryz.func123, Tryz.ntmps123
  go_wp2
  all_goals
    go_ret
    refine ⟨ret_bool ?_, rfl⟩
    first
      | (subst_vars; rfl)
      | (rw [Bool.eq_iff_iff]; simp)
theorem dig_dec : ∀ n, n < 100 → Lib.decDigits n = dig n := by
  intro n h
  unfold dig
  by_cases h1 : n < 10
  · rw [if_pos h1, Lib.decDigits, dif_pos h1]
  · rw [if_neg h1, Lib.decDigits, dif_neg h1, Lib.decDigits, dif_pos (by omega)]
    rfl
theorem chanText_any (c : Nat) (h : c < 100) (w : World) : Calls Tryz.prog 66 #[.int .i64 (c : Int)] w fun e w' => e = .returned (.string (S (chanW c))) ∧ w' = w := by
  have HI := hideIt (fun W => Tryz.strconv_Itoa_small c h W)
  rw [dig_dec c h] at HI
  have e1 : (⟨#[99]⟩ : ByteArray) ++ (⟨(dig c).toArray⟩ : ByteArray) = S (chanW c) := L1.S_cat [99] (dig c)
  have z1 : (⟨(dig c).toArray⟩ : ByteArray).size ≤ 2 := by
    show (dig c).length ≤ 2
    unfold dig; split <;> simp
  clear h
  generalize (⟨(dig c).toArray⟩ : ByteArray) = D at *
  go_enter Tryz.func66, Tryz.ntmps66
  go_wp2_with (go_at_call 68; refine (HI.out _).mono ?_; rintro e w1 ⟨rfl, rfl⟩)
  go_ret
  exact ⟨by rw [← e1]; rfl, rfl⟩
end Go.Proofs.YtlfcihanhfabmaaGreatDoor
