/-
  The document's reader by its words: take, put, what is wrong.
-/
import Derived.Test.YtlfcihanhfabmaaGreatDoorNrA
import Derived.Test.YtlfcihanhfabmaaGreatDoorNtY
namespace Go.Proofs.YtlfcihanhfabmaaGreatDoor
open Go.RowKit
set_option maxRecDepth 8000
open L1 (S)
/-- The document's reader at g, with these words left. -/
structure RfX (w0 w : World) (g : Nat) (s : W8) (d : Nat) (v : Value) (ts : List (Nat × W8)) (ns : List Nd) : Prop where
  ex : ∃ at_, RfM w0 w g s at_ false d v ns ∧ at_ ≤ s.length ∧ lex at_ (s.drop at_) = ts
  len : s.length ≤ 1024
  tail : ∃ pre, lex 0 s = pre ++ ts
  few : ns.length + ts.length ≤ 1024
  deep : d ≤ 32
/-- It is wrong, with so many words left; it has at most m nodes. -/
structure RfW (w0 w : World) (g : Nat) (s : W8) (d : Nat) (v : Value) (k m : Nat) : Prop where
  ex : ∃ at_ ns, RfM w0 w g s at_ true d v ns ∧ at_ ≤ s.length ∧ (lex at_ (s.drop at_)).length = k ∧ (∃ pre, lex 0 s = pre ++ lex at_ (s.drop at_)) ∧ ns.length ≤ m
  len : s.length ≤ 1024
theorem RfX.but {S : Nat → Prop} {w0 w w' : World} {g : Nat} {s : W8} {d : Nat} {v : Value} {ts : List (Nat × W8)} {ns : List Nd} (x : RfX w0 w g s d v ts ns) (b : But S w w') (hg : ¬ S g) (hv : ∀ k, v.ownBlock = some k → ¬ S k) (h0 : ∀ k, k < w0.heap.size → ¬ S k) : RfX w0 w' g s d v ts ns := by
  obtain ⟨i, y, h1, h2⟩ := x.ex
  exact ⟨⟨i, y.but b hg hv h0, h1, h2⟩, x.len, x.tail, x.few, x.deep⟩
theorem RfX.after {w0 w w' : World} {g : Nat} {s : W8} {d : Nat} {v : Value} {ts : List (Nat × W8)} {ns : List Nd} (x : RfX w0 w g s d v ts ns) (b : After w w') : RfX w0 w' g s d v ts ns := x.but b (fun t => t) (fun _ _ t => t) (fun _ _ t => t)
theorem RfW.but {S : Nat → Prop} {w0 w w' : World} {g : Nat} {s : W8} {d : Nat} {v : Value} {k m : Nat} (x : RfW w0 w g s d v k m) (b : But S w w') (hg : ¬ S g) (hv : ∀ k, v.ownBlock = some k → ¬ S k) (h0 : ∀ k, k < w0.heap.size → ¬ S k) : RfW w0 w' g s d v k m := by
  obtain ⟨i, ns, y, h1, h2, h3, h4⟩ := x.ex
  exact ⟨⟨i, ns, y.but b hg hv h0, h1, h2, h3, h4⟩, x.len⟩
theorem RfW.after {w0 w w' : World} {g : Nat} {s : W8} {d : Nat} {v : Value} {k m : Nat} (x : RfW w0 w g s d v k m) (b : After w w') : RfW w0 w' g s d v k m := x.but b (fun t => t) (fun _ _ t => t) (fun _ _ t => t)
theorem RfW.more {w0 w : World} {g : Nat} {s : W8} {d : Nat} {v : Value} {k m m' : Nat} (x : RfW w0 w g s d v k m) (h : m ≤ m') : RfW w0 w g s d v k m' := by
  obtain ⟨i, ns, y, h1, h2, h3, h4⟩ := x.ex
  exact ⟨⟨i, ns, y, h1, h2, h3, by omega⟩, x.len⟩
/-- What lies of the reader in its block. -/
theorem RfX.blk {w0 w : World} {g : Nat} {s : W8} {d : Nat} {v : Value} {ts : List (Nat × W8)} {ns : List Nd} (x : RfX w0 w g s d v ts ns) : ∃ i : Nat, w.heap[g]? = some (.cells #[.string (S s), .int .i64 (i : Int), .bool false, .int .i64 (d : Int), v] 62 (0, 0)) := by
  obtain ⟨i, y, _⟩ := x.ex
  exact ⟨i, y.blk⟩
theorem RfW.blk {w0 w : World} {g : Nat} {s : W8} {d : Nat} {v : Value} {k m : Nat} (x : RfW w0 w g s d v k m) : ∃ i : Nat, w.heap[g]? = some (.cells #[.string (S s), .int .i64 (i : Int), .bool true, .int .i64 (d : Int), v] 62 (0, 0)) := by
  obtain ⟨i, ns, y, _⟩ := x.ex
  exact ⟨i, y.blk⟩
theorem RfX.aft {w0 w : World} {g : Nat} {s : W8} {d : Nat} {v : Value} {ts : List (Nat × W8)} {ns : List Nd} (x : RfX w0 w g s d v ts ns) : After w0 w := by
  obtain ⟨i, y, _⟩ := x.ex
  exact y.aft
theorem RfX.own {w0 w : World} {g : Nat} {s : W8} {d : Nat} {v : Value} {ts : List (Nat × W8)} {ns : List Nd} (x : RfX w0 w g s d v ts ns) : ORow ndE 33 w w0.heap.size v ns := by
  obtain ⟨i, y, _⟩ := x.ex
  exact y.own
theorem RfX.base {w0 w : World} {g : Nat} {s : W8} {d : Nat} {v : Value} {ts : List (Nat × W8)} {ns : List Nd} (x : RfX w0 w g s d v ts ns) : w0.heap.size ≤ g := by
  obtain ⟨i, y, _⟩ := x.ex
  exact y.base
theorem RfX.apart {w0 w : World} {g : Nat} {s : W8} {d : Nat} {v : Value} {ts : List (Nat × W8)} {ns : List Nd} (x : RfX w0 w g s d v ts ns) : v.ownBlock ≠ some g := by
  obtain ⟨i, y, _⟩ := x.ex
  exact y.apart
/-- How deep it is, written. -/
theorem RfX.setD {w0 w : World} {g : Nat} {s : W8} {d : Nat} {v : Value} {ts : List (Nat × W8)} {ns : List Nd} (x : RfX w0 w g s d v ts ns) (i : Nat) (hi : i ≤ 32) : RfX w0 (w.setCell ⟨g, 3, none⟩ (.int .i64 (i : Int))) g s i v ts ns := by
  obtain ⟨j, y, h1, h2⟩ := x.ex
  exact ⟨⟨j, y.setD i, h1, h2⟩, x.len, x.tail, x.few, hi⟩
theorem RfW.setD {w0 w : World} {g : Nat} {s : W8} {d : Nat} {v : Value} {k m : Nat} (x : RfW w0 w g s d v k m) (i : Nat) : RfW w0 (w.setCell ⟨g, 3, none⟩ (.int .i64 (i : Int))) g s i v k m := by
  obtain ⟨j, ns, y, h1, h2⟩ := x.ex
  exact ⟨⟨j, ns, y.setD i, h1, h2⟩, x.len⟩
/-- It becomes wrong. -/
theorem RfX.wrong {w0 w : World} {g : Nat} {s : W8} {d : Nat} {v : Value} {ts : List (Nat × W8)} {ns : List Nd} (x : RfX w0 w g s d v ts ns) {k m : Nat} (hk : k = ts.length) (hm : ns.length ≤ m) : RfW w0 (w.setCell ⟨g, 2, none⟩ (.bool true)) g s d v k m := by
  obtain ⟨j, y, h1, h2⟩ := x.ex
  exact ⟨⟨j, ns, y.setWr true, h1, by rw [h2, hk], by rw [h2]; exact x.tail, hm⟩, x.len⟩
theorem RfW.wrong {w0 w : World} {g : Nat} {s : W8} {d : Nat} {v : Value} {k m : Nat} (x : RfW w0 w g s d v k m) : RfW w0 (w.setCell ⟨g, 2, none⟩ (.bool true)) g s d v k m := by
  obtain ⟨j, ns, y, h1, h2⟩ := x.ex
  exact ⟨⟨j, ns, y.setWr true, h1, h2⟩, x.len⟩
/-- The next word; it is passed over or not. -/
theorem wordX_doc {w0 w : World} {g : Nat} {s : W8} {d : Nat} {v : Value} {ts : List (Nat × W8)} {ns : List Nd} (x : RfX w0 w g s d v ts ns) :
    Calls Tryz.prog 77 #[Ptr g] w fun e w' => e = .returned (.string (S (hdT ts))) ∧ RfM w0 w' g s (pl s.length ts) false d v ns ∧ But (One g) w w' := by
  obtain ⟨i, y, h1, h2⟩ := x.ex
  refine (word_doc y h1 x.len).mono ?_
  rintro e w' ⟨m, rfl, rfl, z, b⟩
  obtain ⟨k1, k2, k3⟩ := cur_of (s := s) (i := i) h1 x.tail h2
  rw [← k2]
  rw [← k1] at z
  exact ⟨rfl, z, b⟩
theorem RfX.at_word {w0 w w' : World} {g : Nat} {s : W8} {d : Nat} {v : Value} {ts : List (Nat × W8)} {ns : List Nd} (x : RfX w0 w g s d v ts ns) (y : RfM w0 w' g s (pl s.length ts) false d v ns) : RfX w0 w' g s d v ts ns := by
  obtain ⟨i, z, h1, h2⟩ := x.ex
  obtain ⟨k1, k2, k3⟩ := cur_of (s := s) (i := i) h1 x.tail h2
  have hle := k3.le
  refine ⟨⟨_, y, by omega, ?_⟩, x.len, x.tail, x.few, x.deep⟩
  rw [k1, ← List.drop_drop, ← lex_blanks]
  exact h2
theorem RfX.at_next {w0 w w' : World} {g : Nat} {s : W8} {d : Nat} {v : Value} {ts : List (Nat × W8)} {ns : List Nd} (x : RfX w0 w g s d v ts ns) (y : RfM w0 w' g s (pl s.length ts + (hdT ts).length) false d v ns) : RfX w0 w' g s d v ts.tail ns := by
  obtain ⟨i, z, h1, h2⟩ := x.ex
  obtain ⟨k1, k2, k3⟩ := cur_of (s := s) (i := i) h1 x.tail h2
  obtain ⟨pre, hp⟩ := x.tail
  refine ⟨⟨_, y, k3.le, k3.rest⟩, x.len, ?_, by have := x.few; simp; omega, x.deep⟩
  cases ts with
  | nil => exact ⟨pre, hp⟩
  | cons t r => exact ⟨pre ++ [t], by rw [hp]; simp⟩
theorem take_wrong {w0 w : World} {g : Nat} {s : W8} {d : Nat} {v : Value} {k m : Nat} (x : RfW w0 w g s d v k m) (t : ByteArray) : Calls Tryz.prog 52 #[Ptr g, .string t] w fun e w' => e = .returned (.bool false) ∧ w' = w := by
  obtain ⟨i, hb⟩ := x.blk
  obtain ⟨hg, c0, c1, c2, c3, c4, hz⟩ := five_at hb
  clear x hb hz
  go_enter Tryz.func52, Tryz.ntmps52
  go_wp2
  go_ret
  exact ⟨rfl, rfl⟩
set_option maxHeartbeats 400000 in
theorem take_yes {w0 w : World} {g : Nat} {s : W8} {d : Nat} {v : Value} {ts : List (Nat × W8)} {ns : List Nd} (x : RfX w0 w g s d v ts ns) {t : W8} (h : hdT ts = t) :
    Calls Tryz.prog 52 #[Ptr g, .string (S t)] w fun e w' => e = .returned (.bool true) ∧ RfX w0 w' g s d v ts.tail ns ∧ But (One g) w w' := by
  subst h
  obtain ⟨i, hb⟩ := x.blk
  obtain ⟨hg, c0, c1, c2, c3, c4, hz⟩ := five_at hb
  have HX := hideIt x
  have HW := hideIt (wordX_doc x)
  have e1 := S_yes (rfl : hdT ts = hdT ts)
  have hle : Hid (pl s.length ts + (hdT ts).length ≤ s.length) := hideIt (by
    obtain ⟨i, z, h1, h2⟩ := x.ex
    exact (cur_of (s := s) (i := i) h1 x.tail h2).2.2.le)
  have hs : Hid (s.length ≤ 1024) := hideIt x.len
  have HN : Hid (∀ W, RfM w0 W g s (pl s.length ts + (hdT ts).length) false d v ns → RfX w0 W g s d v ts.tail ns) := hideIt (fun W y => x.at_next y)
  clear x hb hz
  generalize hdT ts = wd at *
  generalize pl s.length ts = p at *
  go_enter Tryz.func52, Tryz.ntmps52
  go_wp2_with fail
  refine HW.out.mono ?_
  rintro e w1 ⟨rfl, y, b⟩
  obtain ⟨hg1, d0, d1, d2, d3, d4, dz⟩ := five_at y.blk
  have dz1 := dz 1
  have HY := hideIt (And.intro y b)
  have q1 : (p : Int) + ((S wd).size : Int) ≤ 1024 := by rw [L1.S_size]; have := hle.out; have := hs.out; omega
  obtain ⟨q, hq⟩ : ∃ q, q = p + wd.length := ⟨_, rfl⟩
  have e2 : (p : Int) + ((S wd).size : Int) = (q : Int) := by rw [L1.S_size, hq]; omega
  have HQ := hideIt hq
  clear y b dz hq
  go_wp2_with fail
  go_ret
  refine ⟨rfl, HN.out _ ?_, HY.out.2.trans (but_one _ _ _ _)⟩
  rw [← HQ.out]
  exact HY.out.1.setAt q
theorem take_no {w0 w : World} {g : Nat} {s : W8} {d : Nat} {v : Value} {ts : List (Nat × W8)} {ns : List Nd} (x : RfX w0 w g s d v ts ns) {t : W8} (h : ¬ hdT ts = t) :
    Calls Tryz.prog 52 #[Ptr g, .string (S t)] w fun e w' => e = .returned (.bool false) ∧ RfX w0 w' g s d v ts ns ∧ But (One g) w w' := by
  obtain ⟨i, hb⟩ := x.blk
  obtain ⟨hg, c0, c1, c2, c3, c4, hz⟩ := five_at hb
  have HW := hideIt (wordX_doc x)
  have e1 := S_no h
  have HN : Hid (∀ W, RfM w0 W g s (pl s.length ts) false d v ns → RfX w0 W g s d v ts ns) := hideIt (fun W y => x.at_word y)
  clear x hb hz h
  generalize hdT ts = wd at *
  generalize pl s.length ts = p at *
  go_enter Tryz.func52, Tryz.ntmps52
  go_wp2_with fail
  refine HW.out.mono ?_
  rintro e w1 ⟨rfl, y, b⟩
  have HY := hideIt (And.intro y b)
  clear y b
  go_wp2
  go_ret
  exact ⟨rfl, HN.out _ HY.out.1, HY.out.2⟩
/-- Nodes are appended to, and the reader's cell is written. -/
theorem put_end {w0 w W w2 : World} {g gg cap : Nat} {s : W8} {i : Nat} {wf : Bool} {d : Nat} {v : Value} {ns : List Nd} (x : RfM w0 w g s i wf d v ns) (y : Nd) (a : After w W) (hgr : W.grownBy w2 v.ownBlock)
    (ho : w2.ownsRow w0.heap.size 33 4 (.slice (some ⟨gg, 0, none⟩) (ns.length + 1) cap) (ns.length + 1) (ndE.flat ns ++ ndE.enc y)) (hat : v.ownBlock = some gg ∨ w.heap.size ≤ gg) :
    RfM w0 (w2.setCell ⟨g, 4, none⟩ (.slice (some ⟨gg, 0, none⟩) (ns.length + 1) cap)) g s i wf d (.slice (some ⟨gg, 0, none⟩) (ns.length + 1) cap) (ns ++ [y]) ∧ Goes g v w (.slice (some ⟨gg, 0, none⟩) (ns.length + 1) cap) (w2.setCell ⟨g, 4, none⟩ (.slice (some ⟨gg, 0, none⟩) (ns.length + 1) cap)) := by
  have b2 : But (fun k => v.ownBlock = some k) w w2 := a.but.then (But.grown But.rfl hgr (fun k hk _ => hk)) (fun _ _ t => t)
  have hg2 : w2.heap[g]? = some (.cells #[.string (S s), .int .i64 (i : Int), .bool wf, .int .i64 (d : Int), v] 62 (0, 0)) := (b2.block g x.lt (fun e => x.apart e)).trans x.blk
  have ho' : ORow ndE 33 w2 w0.heap.size (.slice (some ⟨gg, 0, none⟩) (ns.length + 1) cap) (ns ++ [y]) := by
    show w2.ownsRow _ _ _ _ (ns ++ [y]).length (ndE.flat (ns ++ [y]))
    rw [ndE.flat_append, List.length_append]
    have e : ndE.flat [y] = ndE.enc y := by simp [Enc.flat]
    rw [e]
    exact ho
  have hgg : gg ≠ g := by
    rintro rfl
    rcases ho.2 with ⟨h, _⟩ | ⟨k, c, cur, e, _, hb, _⟩
    · cases h
    · cases e
      rw [hg2] at hb
      simp at hb
  have b3 : But (Own g v) w (w2.setCell ⟨g, 4, none⟩ (.slice (some ⟨gg, 0, none⟩) (ns.length + 1) cap)) := (b2.mono (fun _ _ h => .inr h)).set ⟨g, 4, none⟩ (fun _ => .inl rfl) _
  have b4 : But (One g) w2 (w2.setCell ⟨g, 4, none⟩ (.slice (some ⟨gg, 0, none⟩) (ns.length + 1) cap)) := but_one _ _ _ _
  refine ⟨⟨?_, own_but ho' b4 (fun k hk e => hgg ?_), x.base, x.aft.then b3 (fun i hi h => ?_)⟩, b3, fun k hk => ?_⟩
  · rw [blk_put hg2]; rfl
  · have : gg = k := by simpa [Value.ownBlock] using hk
    rw [this]; exact e
  · have := x.base
    rcases h with h | h
    · omega
    · have := (x.own.lt i h).1
      omega
  · have : gg = k := by simpa [Value.ownBlock] using hk
    rw [← this]; exact hat
set_option maxHeartbeats 1000000 in
theorem put_doc {w0 w : World} {g : Nat} {s : W8} {i : Nat} {wf : Bool} {d : Nat} {v : Value} {ns : List Nd} (x : RfM w0 w g s i wf d v ns) (y : Nd) (hl : ns.length ≤ 2048) :
    Calls Tryz.prog 53 #[Ptr g, y.val] w fun e w' => ∃ v', e = .returned (.int .i64 (ns.length : Int)) ∧ RfM w0 w' g s i wf d v' (ns ++ [y]) ∧ Goes g v w v' w' := by
  unfold Nd.val
  obtain ⟨hg, c0, c1, c2, c3, c4, hz⟩ := five_at x.blk
  obtain ⟨i0, hi0, hzz⟩ := Option.map_eq_some_iff.1 Tryz.infoNode
  simp only [Prod.mk.injEq] at hzz
  obtain ⟨hz0, hz1, hz2⟩ := hzz
  have HX := hideIt x
  have hz4 := hz 4
  have HN := hideIt x.apart
  have hB : Hid (w0.heap.size ≤ w.heap.size) := hideIt (by have := x.base; omega)
  have lens : Hid (ns.length ≤ 2048) := hideIt hl
  have hX1 := fun o => x.after (After.rfl.alloc o)
  clear x hz hl
  go_enter Tryz.func53, Tryz.ntmps53
  go_wp2_with fail
  obtain ⟨wB, hwB⟩ : ∃ W, W = w.alloc (.cells #[.int .i64 y.op, .int .i64 y.a, .int .i64 y.b, .int .i64 y.n] 33) := ⟨_, rfl⟩
  have HX1 := hideIt (hX1 (.cells #[.int .i64 y.op, .int .i64 y.a, .int .i64 y.b, .int .i64 y.n] 33))
  have hbb : wB.heap[w.heap.size]? = some (.cells #[.int .i64 y.op, .int .i64 y.a, .int .i64 y.b, .int .i64 y.n] 33 (0, 0)) := by rw [hwB]; exact heap_alloc_new w _
  have b0 := blk_cell hbb (i := 0) rfl
  have b1 := blk_cell hbb (i := 1) rfl
  have b2 := blk_cell hbb (i := 2) rfl
  have b3 := blk_cell hbb (i := 3) rfl
  have hlb := blk_lt hbb
  have HWB : Hid (After w wB ∧ w.heap.size ≤ wB.heap.size) := hideIt (by rw [hwB]; exact ⟨After.rfl.alloc _, by simp⟩)
  rw [← hwB] at HX1 ⊢
  obtain ⟨hg1, d0, d1, d2, d3, d4, dz⟩ := five_at HX1.out.blk
  have dz4 := dz 4
  have hfa : ∀ o, (wB.alloc o).drew.frozen? ⟨g, 4, none⟩ = false := fun o => by
    have h := World.frozen?_of_block (w := wB) (w' := (wB.alloc o).drew) (a := ⟨g, 4, none⟩) (Below.heap_alloc _ _ _ hg1)
    rw [h]; exact dz4
  have hca : ∀ o, (wB.alloc o).drew.cell? ⟨g, 4, none⟩ = some v := fun o => by
    have h := World.cell?_of_block (w := wB) (w' := (wB.alloc o).drew) (a := ⟨g, 4, none⟩) (Below.heap_alloc _ _ _ hg1)
    rw [h]; exact d4
  clear hwB hbb dz hX1
  go_region_law
    (refine step_append_lies _ (by rfl) _ _ _ (by rfl) w0.heap.size 33 i0 _ 4 32 Tryz.underlying22 hi0 hz0 hz1 hz2 rfl (by omega) v ns.length (ndE.flat ns) (by rfl) ((HX1.out.own.alloc _).drew)
        ⟨wB.heap.size, 0, none⟩ 1 1 [.int .i64 y.op, .int .i64 y.a, .int .i64 y.b, .int .i64 y.n] (by rfl) (by rfl) (World.news_of_block (cs := #[_, _, _, _]) (t := 33) (fr := (0, 0)) (heap_alloc_new wB _)) (by simp [Value.oneCell'])
        (by omega) (by have := lens.out; unfold maxLen; omega) (by have := lens.out; omega) (by have := hB.out; have := HWB.out.2; simp; omega) (wB.heap.size + 1) (by simp) ?_; intro gg cap w4 hown1 hgrow hat hlt2; have x1 := (hgrow.cell_far ⟨g, 4, none⟩ (by simp; omega) (Ne.symm HN.out)).trans (hca _); have x2 := (hgrow.frozen_far ⟨g, 4, none⟩ (by simp; omega) (Ne.symm HN.out)).trans (hfa _))
  all_goals
    obtain ⟨y1, k1⟩ := put_end HX.out y ((HWB.out.1.alloc _).draws 1) hgrow hown1 (by rcases hat with h | h; exact .inl h; exact .inr (by have := HWB.out.2; omega))
    obtain ⟨W, hW⟩ : ∃ W, W = w4.setCell ⟨g, 4, none⟩ (.slice (some ⟨gg, 0, none⟩) (ns.length + 1) cap) := ⟨_, rfl⟩
    rw [← hW] at y1 k1 ⊢
    obtain ⟨q1, q2, q3, q4, q5, q6, q7⟩ := five_at y1.blk
    have HY := hideIt (And.intro y1 k1)
    have l1 : (ns.length : Int) + 1 ≤ 2049 := by have := lens.out; omega
    clear y1 k1 hW hgrow hown1 hat x1 x2 hca hfa q7
    go_wp2
    go_ret
    exact ⟨_, rfl, HY.out.1, HY.out.2⟩
theorem putX {w0 w : World} {g : Nat} {s : W8} {d : Nat} {v : Value} {ts : List (Nat × W8)} {ns : List Nd} (x : RfX w0 w g s d v ts ns) (y : Nd) (hl : ns.length + 1 + ts.length ≤ 1024) :
    Calls Tryz.prog 53 #[Ptr g, y.val] w fun e w' => ∃ v', e = .returned (.int .i64 (ns.length : Int)) ∧ RfX w0 w' g s d v' ts (ns ++ [y]) ∧ Goes g v w v' w' := by
  obtain ⟨i, z, h1, h2⟩ := x.ex
  refine (put_doc z y (by omega)).mono ?_
  rintro e w' ⟨v', rfl, z', k⟩
  exact ⟨v', rfl, ⟨⟨i, z', h1, h2⟩, x.len, x.tail, by simp; omega, x.deep⟩, k⟩
theorem putW {w0 w : World} {g : Nat} {s : W8} {d : Nat} {v : Value} {k m : Nat} (x : RfW w0 w g s d v k m) (y : Nd) (hl : m ≤ 2000) :
    Calls Tryz.prog 53 #[Ptr g, y.val] w fun e w' => ∃ z v', e = .returned (.int .i64 z) ∧ RfW w0 w' g s d v' k (m + 1) ∧ Goes g v w v' w' := by
  obtain ⟨i, ns, z, h1, h2, h3, h4⟩ := x.ex
  refine (put_doc z y (by omega)).mono ?_
  rintro e w' ⟨v', rfl, z', k⟩
  exact ⟨_, v', rfl, ⟨⟨i, _, z', h1, h2, h3, by simp; omega⟩, x.len⟩, k⟩
end Go.Proofs.YtlfcihanhfabmaaGreatDoor
