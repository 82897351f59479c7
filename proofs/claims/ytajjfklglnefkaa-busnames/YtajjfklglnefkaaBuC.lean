/-
  Join: a listener more.
-/
import Derived.Test.YtajjfklglnefkaaBuA
import Derived.Laws.ResultCell
import Derived.Deep.MidRow
import Derived.Deep.RegionLaw
namespace Go.Proofs.Ytajjfklglnefkaa
open Go.RowKit
set_option maxRecDepth 8000
theorem blk_range {w : World} {g : Nat} {cs : Array Value} {T : TypeId} (hb : w.heap[g]? = some (.cells cs T (0, 0))) : w.rangeAt g 0 cs.toList := fun j v hv => by
  rw [Nat.zero_add]
  exact blk_cell hb (by simpa using hv)
/-- A whole block is read. -/
theorem load_blk {w : World} {g : Nat} {cs : Array Value} {T T' : TypeId} {d : TypeDesc} (hb : w.heap[g]? = some (.cells cs T' (0, 0))) (hu : Try.prog.underlying T = some d) (hd : d.isRow = true) (hi : (Try.prog.info? T).map (·.size) = some cs.size) :
    (loadVar T ⟨g, 0, none⟩).run Try.prog w = .ok (.agg cs) w := by
  have := run_loadVar_mid (P := Try.prog) w g 0 T cs.toList d (blk_range hb) hu hd (by simpa using hi)
  simpa using this
/-- Two results, the first one in a cell. -/
theorem ret_cell2 {F : Func} {R : Ending → World → Prop} {a : Act} {w : World} {p q : Tmp} {T T' : TypeId} {g : Nat} {cs : Array Value} {d : TypeDesc} {x : Value} (hr : F.results = #[.cell p T, .tmp q]) (hp : a.tmps.getD p undef = Ptr g) (hq : a.tmps.getD q undef = x) (hb : w.heap[g]? = some (.cells cs T' (0, 0)))
    (hu : Try.prog.underlying T = some d) (hd : d.isRow = true) (hi : (Try.prog.info? T).map (·.size) = some cs.size) (hf : a.defers = []) (hR : R (.returned (.tuple #[.agg cs, x])) w) : bodyPost Try.prog F R .ret a w := by
  refine bodyPost_ret (v := .tuple #[.agg cs, x]) ?_ hf hR
  have hl := load_blk hb hu hd hi
  rw [results_cell_tmp hr, hp, hq]
  simp [asAddr, Result.andThen, hl]
theorem Try.infoLi : (Try.prog.info? 65).map (·.size) = some 2 := by kernel_rfl
theorem Try.infoLr : (Try.prog.info? 65).map (fun i => (i.zero, i.size, i.bytes)) = some (some (.agg #[.pointer none, .int .i64 0]), 2, 16) := by kernel_rfl
theorem two_put {w : World} {g : Nat} {a b : Value} {T : TypeId} (h : w.heap[g]? = some (.cells #[a, b] T (0, 0))) (x y : Value) :
    ((w.setCell ⟨g, 0, none⟩ x).setCell ⟨g, 1, none⟩ y).heap[g]? = some (.cells #[x, y] T (0, 0)) := blk_put (blk_put h 0 x) 1 y
theorem listen_any (w : World) (t : Int) : Calls Try.prog 26 #[.int .i64 t] w fun e w' => e = .returned (.tuple #[.agg #[Ptr (w.heap.size + 1), .int .i64 t], .int .i64 0]) ∧ Rg w' (w.heap.size + 1) 16 Sg.new ∧ After w w' := by
  have hN : Calls Try.prog 40 #[.int .i64 16] (w.alloc (.cells #[.pointer none, .int .i64 0] 65)) fun e w' => e = .returned (.tuple #[Ptr (w.heap.size + 1), .int .i64 0]) ∧ Rg w' (w.heap.size + 1) 16 Sg.new ∧ After (w.alloc (.cells #[.pointer none, .int .i64 0] 65)) w' := by
    have e1 : (w.alloc (.cells #[.pointer none, .int .i64 0] 65)).heap.size = w.heap.size + 1 := by simp
    refine (rgNew_ok _ 16 (by omega) (by omega)).mono ?_
    rintro e w' ⟨rfl, rfl⟩
    rw [e1]
    exact ⟨rfl, rg_new (n := 16) (by rw [← e1]; exact heap_alloc_new _ _) (by omega) (by omega), After.rfl.alloc _⟩
  have hb0 := two_new w 65 (.pointer none) (.int .i64 0)
  have a0 : After w (w.alloc (.cells #[.pointer none, .int .i64 0] 65)) := After.rfl.alloc _
  obtain ⟨U, hU⟩ : ∃ U, U = w.alloc (.cells #[.pointer none, .int .i64 0] 65) := ⟨_, rfl⟩
  rw [← hU] at hN hb0 a0
  have HN := hideIt hN
  have HU := hideIt hU
  have HB := hideIt (And.intro hb0 a0)
  clear hN hU hb0 a0
  go_enter Try.func26, Try.ntmps26
  go_wp2_with fail
  rw [← HU.out]
  refine HN.out.mono ?_
  rintro e w1 ⟨rfl, x1, a1⟩
  have hb1 := (a1.block _ (blk_lt HB.out.1) (fun t => t)).trans HB.out.1
  obtain ⟨_, k0, k1, k2, k3⟩ := two_at hb1
  have HX := hideIt (And.intro x1 (And.intro a1 hb1))
  clear x1 a1 hb1 HN
  go_wp2_with fail
  obtain ⟨x1, a1, hb1⟩ := HX.out
  have b2 := (but_one w1 w.heap.size 0 (Ptr (w.heap.size + 1))).trans (but_one _ w.heap.size 1 (.int .i64 t))
  refine ret_cell2 Try.results26 rfl rfl (two_put hb1 (Ptr (w.heap.size + 1)) (.int .i64 t)) Try.underlying65 rfl Try.infoLi rfl ⟨rfl, x1.but b2 (fun e => by have : w.heap.size + 1 = w.heap.size := e; omega), (HB.out.2.trans a1).then b2 (fun i hi e => by have : i = w.heap.size := e; omega)⟩
def joined (o : Nat → Nat) (n q m gg : Nat) : Nat → Nat := fun k => if k < n then o k else if k = q then m else if k = gg then 2 else 0
theorem bu_join {w w2 w3 : World} {p q gg cap H : Nat} {o : Nat → Nat} {b : Bz} {cs : Array Value} {v : Value} {xs : List Ln} {t : Int} (x : BuX w p o b cs v xs) (hl : xs.length < 8) (a2 : After w w2) (r2 : Rg w2 q 16 Sg.new) (hq : w.heap.size ≤ q) (hgrow : w2.grownBy w3 v.ownBlock)
    (hown : w3.ownsRow 0 65 2 (.slice (some ⟨gg, 0, none⟩) (xs.length + 1) cap) (xs.length + 1) (liE.flat xs ++ [Ptr q, .int .i64 t])) (hat : v.ownBlock = some gg ∨ gg = H) (hH : w2.heap.size ≤ H) (hlt : gg < w3.heap.size) :
    ∃ o', Bu (w3.setCell ⟨p, 1, none⟩ (.slice (some ⟨gg, 0, none⟩) (xs.length + 1) cap)) p o' (b.join t) ∧ Goes w (w3.setCell ⟨p, 1, none⟩ (.slice (some ⟨gg, 0, none⟩) (xs.length + 1) cap)) o o' := by
  have hs := x.size
  have hp := blk_lt x.at0
  have hq2 := r2.lt
  have b3 : But (fun k => v.ownBlock = some k) w2 w3 := But.grown But.rfl hgrow (fun k hk _ => hk)
  have hvlt : ∀ k, v.ownBlock = some k → k < w.heap.size := fun k hk => (x.own.lt k hk).2
  have hggq : gg ≠ q := by
    rcases hat with h | h
    · have := hvlt gg h; omega
    · omega
  have hggv : gg < w.heap.size → v.ownBlock = some gg := fun h => by
    rcases hat with h' | h'
    · exact h'
    · have := a2.size; omega
  have hvp : ¬ v.ownBlock = some p := fun h => by have := x.lv p h; rw [x.lp] at this; cases this
  have hpg : p ≠ gg := fun h => by
    subst h
    rcases hat with h' | h'
    · exact hvp h'
    · have := a2.size; omega
  have h2 := (a2.block p hp (fun t => t)).trans x.at0
  have h3 := (b3.block p (blk_lt h2) hvp).trans h2
  generalize hu : (Value.slice (some ⟨gg, 0, none⟩) (xs.length + 1) cap) = u at hown ⊢
  have hob : ∀ k, u.ownBlock = some k → k = gg := fun k hk => by subst hu; cases hk; rfl
  have b4 := but_one w3 p 1 u
  have go : But (fun k => o k ≠ 0) w (w3.setCell ⟨p, 1, none⟩ u) :=
    (a2.but.then b3 (fun i _ h => by rw [x.lv i h]; decide)).then b4 (fun i _ h => by have : i = p := h; rw [this, x.lp]; decide)
  refine ⟨joined o w.heap.size q (4 + xs.length) gg, ⟨_, u, xs ++ [⟨q, t, Sg.new⟩], blk_put h3 1 u, by simp [hs], ?_, set_at (by omega) _, fun i hi => ?_, fun i hi => ?_, ?_, ?_, ?_, ?_, fun i y hy => ?_, ?_, fun k hk => ?_, fun k hk => ?_, join_ok x.ok (by rw [x.len]; exact hl) t⟩, go, fun k hk => if_pos hk⟩
  · rw [set_off (by omega)]; exact x.c0
  · rw [set_off (by omega)]; exact x.c2 i hi
  · rw [set_off (by omega)]; exact x.c3 i hi
  · rw [set_off (by omega)]; exact x.c10
  · rw [set_off (by omega)]; exact x.c11
  · have e : liE.flat (xs ++ [⟨q, t, Sg.new⟩]) = liE.flat xs ++ [Ptr q, .int .i64 t] := by rw [liE.flat_append]; rfl
    have el : (xs ++ [(⟨q, t, Sg.new⟩ : Ln)]).length = xs.length + 1 := by rw [List.length_append, List.length_singleton]
    unfold ORow
    rw [e, el]
    exact own_but hown b4 (fun k hk e => hpg (by rw [← hob k hk]; exact e.symm))
  · show b.ls ++ [(t, Sg.new)] = _
    rw [List.map_append, x.ls]; rfl
  · by_cases hi : i < xs.length
    · rw [List.getElem?_append_left hi] at hy
      obtain ⟨r, l⟩ := x.rings i y hy
      have hy1 : ¬ v.ownBlock = some y.p := fun h => by have := x.lv _ h; omega
      have hy2 : ¬ y.p = p := fun h => by rw [h, x.lp] at l; omega
      refine ⟨((r.but a2 (fun t => t)).but b3 hy1).but b4 hy2, ?_⟩
      unfold joined
      rw [if_pos r.lt]
      exact l
    · rw [List.getElem?_append_right (by omega)] at hy
      have hi2 : i = xs.length := by
        have := (List.getElem?_eq_some_iff.1 hy).1
        simp at this
        omega
      subst hi2
      simp at hy
      subst hy
      refine ⟨(r2.but b3 (fun h => by have := hvlt _ h; omega)).but b4 (fun h => by have : q = p := h; omega), ?_⟩
      unfold joined
      rw [if_neg (by show ¬ q < _; omega), if_pos rfl]
  · unfold joined
    rw [if_pos hp]; exact x.lp
  · rw [hob k hk]
    unfold joined
    split
    · rename_i h; exact x.lv _ (hggv h)
    · simp []
  · have hz : (w3.setCell ⟨p, 1, none⟩ u).heap.size = w3.heap.size := by simp [World.setCell]
    rw [hz]
    unfold joined at hk
    split at hk
    · have := x.bnd k hk; have := a2.size; have := b3.size; omega
    · split at hk
      · have := b3.size; omega
      · split at hk
        · omega
        · exact absurd rfl hk
theorem join_none {w : World} {v : Value} (h : NoneB w v) (t : Int) : Calls Try.prog 11 #[v, .int .i64 t] w fun e w' => e = .returned (.tuple #[.int .i64 0, .int .i64 1]) ∧ w' = w := by
  have H := hideIt (topic_none h t)
  clear h
  go_enter Try.func11, Try.ntmps11
  go_wp2_with (go_at_call 25; refine H.out.mono ?_; rintro e w' ⟨rfl, rfl⟩)
  go_ret2
  exact ⟨rfl, rfl⟩
theorem join_no {w : World} {p : Nat} {o : Nat → Nat} {b : Bz} (x : Bu w p o b) {t : Int} (h : t < 0 ∨ b.n ≤ t) : Calls Try.prog 11 #[Ptr p, .int .i64 t] w fun e w' => e = .returned (.tuple #[.int .i64 0, .int .i64 200]) ∧ w' = w := by
  have H := hideIt (topic_no x h)
  clear x h
  go_enter Try.func11, Try.ntmps11
  go_wp2_with (go_at_call 25; refine H.out.mono ?_; rintro e w' ⟨rfl, rfl⟩)
  go_ret2
  exact ⟨rfl, rfl⟩
theorem join_many {w : World} {p : Nat} {o : Nat → Nat} {b : Bz} (x : Bu w p o b) {t : Int} (h1 : 0 ≤ t) (h2 : t < b.n) (hl : b.ls.length = 8) : Calls Try.prog 11 #[Ptr p, .int .i64 t] w fun e w' => e = .returned (.tuple #[.int .i64 0, .int .i64 6]) ∧ w' = w := by
  have H := hideIt (topic_ok x h1 h2)
  obtain ⟨cs, v, xs, x⟩ := x
  rw [x.len] at hl
  obtain ⟨a, c, e, _⟩ := ORow.row x.own
  rw [hl] at e
  subst e
  have c1 := blk_cell x.at0 x.c1
  clear x h1 h2 hl
  go_enter Try.func11, Try.ntmps11
  go_wp2_with (go_at_call 25; refine H.out.mono ?_; rintro e w' ⟨rfl, rfl⟩)
  go_ret2
  exact ⟨rfl, rfl⟩
set_option maxHeartbeats 1000000 in
theorem join_yes {w : World} {p : Nat} {o : Nat → Nat} {b : Bz} (x : Bu w p o b) {t : Int} (h1 : 0 ≤ t) (h2 : t < b.n) (hl : b.ls.length < 8) : Calls Try.prog 11 #[Ptr p, .int .i64 t] w fun e w' => e = .returned (.tuple #[.int .i64 (b.ls.length : Int), .int .i64 0]) ∧ ∃ o', Bu w' p o' (b.join t) ∧ Goes w w' o o' := by
  have H := hideIt (topic_ok x h1 h2)
  have HL := hideIt (listen_any w t)
  obtain ⟨cs, v, xs, x⟩ := x
  rw [x.len] at hl ⊢
  obtain ⟨a, c, e, _⟩ := ORow.row x.own
  subst e
  have c1 := blk_cell x.at0 x.c1
  have HX := hideIt (And.intro x hl)
  obtain ⟨n, hn⟩ : ∃ n : Nat, n = xs.length := ⟨_, rfl⟩
  have ne : ((n : Int) == 8) = false := by simp; omega
  have n8 : (n : Int) < 8 := by omega
  rw [← hn] at c1 ⊢
  have HN := hideIt hn
  obtain ⟨i0, hi0, hz⟩ := Option.map_eq_some_iff.1 Try.infoLr
  simp only [Prod.mk.injEq] at hz
  obtain ⟨hz0, hz1, hz2⟩ := hz
  clear x h1 h2 hl hn
  go_enter Try.func11, Try.ntmps11
  go_wp2_with fail
  refine H.out.mono ?_
  rintro e w0 ⟨rfl, hw0⟩
  obtain rfl := hw0.symm
  go_wp2_with fail
  refine HL.out.mono ?_
  rintro e w1 ⟨rfl, r1, a1⟩
  have HR := hideIt (And.intro r1 a1)
  clear r1 a1 H HL c1
  go_wp2_with fail
  obtain ⟨U, hU⟩ : ∃ U, U = w1.alloc (.cells #[Ptr (w.heap.size + 1), .int .i64 t] 65) := ⟨_, rfl⟩
  rw [← hU]
  have aU : After w1 U := by rw [hU]; exact After.rfl.alloc _
  have hb := two_new w1 65 (Ptr (w.heap.size + 1)) (.int .i64 t)
  rw [← hU] at hb
  obtain ⟨hlt0, k0, k1, _, _⟩ := two_at hb
  have xU := HX.out.1.after (HR.out.2.trans aU)
  have c1 := blk_cell xU.at0 xU.c1
  have f1 := blk_soft xU.at0 1
  have pU := blk_lt xU.at0
  have ne : (Value.slice a xs.length c).ownBlock ≠ some p := fun h => by have := xU.lv p h; rw [xU.lp] at this; cases this
  have HO : Hid (U.ownsRow 0 65 2 (.slice a n c) n (liE.flat xs)) := hideIt (by rw [HN.out]; exact xU.own)
  have HW := hideIt (And.intro (HR.out.2.trans aU) (HR.out.1.but aU (fun t => t)))
  have hfa : ∀ o, (U.alloc o).drew.frozen? ⟨p, 1, none⟩ = false := fun o => by
    have h := World.frozen?_of_block (w := U) (w' := (U.alloc o).drew) (a := ⟨p, 1, none⟩) (Below.heap_alloc _ _ _ pU)
    rw [h]; exact f1
  have hca : ∀ o, (U.alloc o).drew.cell? ⟨p, 1, none⟩ = some (Value.slice a xs.length c) := fun o => by
    have h := World.cell?_of_block (w := U) (w' := (U.alloc o).drew) (a := ⟨p, 1, none⟩) (Below.heap_alloc _ _ _ pU)
    rw [h]; exact c1
  rw [← HN.out] at c1 hca ne
  clear xU aU hU hb HR
  go_region_law
    (refine step_append_lies _ (by rfl) _ _ _ (by rfl) 0 65 i0 _ 2 16 Try.underlying53 hi0 hz0 hz1 hz2 rfl (by omega) (.slice a n c) n (liE.flat xs) (by rfl) ((HO.out.alloc _).drew)
        ⟨U.heap.size, 0, none⟩ 1 1 [Ptr (w.heap.size + 1), .int .i64 t] (by rfl) (by rfl) (World.news_of_block (cs := #[_, _]) (t := 65) (fr := (0, 0)) (heap_alloc_new U _)) (by simp [Value.oneCell'])
        (by omega) (by unfold maxLen; omega) (by omega) (by omega) (U.heap.size + 1) (by simp) ?_; intro gg cap w2 hown1 hgrow hat hlt2; have x1 := (hgrow.cell_far ⟨p, 1, none⟩ (by simp; omega) (Ne.symm ne)).trans (hca _); have x2 := (hgrow.frozen_far ⟨p, 1, none⟩ (by simp; omega) (Ne.symm ne)).trans (hfa _); have HG := hideIt (And.intro hown1 (And.intro hgrow (And.intro hat hlt2))); clear hown1 hgrow hat hlt2)
  all_goals
    go_wp2_with fail
    go_ret2
    obtain ⟨hown1, hgrow, hat, hlt2⟩ := HG.out
    obtain rfl := HN.out
    exact ⟨rfl, bu_join HX.out.1 HX.out.2 ((HW.out.1.alloc _).draws 1) (HW.out.2.but (S := Non) ((After.rfl.alloc _).draws 1) (fun t => t)) (by omega) hgrow hown1 hat (by simp) hlt2⟩
end Go.Proofs.Ytajjfklglnefkaa
