/-
  The document's bus in memory: its block, the rows of topics and of rings, the rings; New; its locks: asked, Free, Set, Locked.
-/
import Derived.Test.YtajjfklglnefkaaBuP
import Derived.Test.YtajjfklglnefkaaBrD
import Derived.Test.YtajjfklglnefkaaBuA
import Derived.Deep.AppendLies
namespace Go.Proofs.Ytajjfklglnefkaa
open Go.RowKit
set_option maxRecDepth 8000
def inE : Enc Int where
  k := 1
  enc x := [.int .i64 x]
  len _ := rfl
  one x u hu := by
    simp only [List.mem_cons, List.not_mem_nil, or_false] at hu
    rcases hu with rfl; rfl
  pos := by decide
def ptE : Enc Nat where
  k := 1
  enc x := [Ptr x]
  len _ := rfl
  one x u hu := by
    simp only [List.mem_cons, List.not_mem_nil, or_false] at hu
    rcases hu with rfl; rfl
  pos := by decide
/-- The document's bus lies at g; what is its own is labelled: 1 the bus, 2 the topics' row, 3 the rings' row, 4 and more the rings. -/
structure RbX (w : World) (g : Nat) (o : Nat → Nat) (b : Bz) (cs : Array Value) (vt vr : Value) (ts : List Int) (ps : List Nat) : Prop where
  at0 : w.heap[g]? = some (.cells cs 62 (0, 0))
  size : cs.size = 9
  c0 : cs[0]? = some (.int .i64 b.n)
  c1 : cs[1]? = some (.int .i64 b.fr)
  c2 : cs[2]? = some vt
  c3 : cs[3]? = some vr
  cl : ∀ i, i < 4 → cs[4 + i]? = some (.int .i64 (whd (b.lk i)))
  c8 : cs[8]? = some (.int .i64 b.ck)
  hts : ts = b.ls.map Prod.fst
  ownT : ORow inE 3 w 0 vt ts
  ownR : ORow ptE 72 w 0 vr ps
  len : ps.length = b.ls.length
  rings : ∀ i q x, ps[i]? = some q → b.ls[i]? = some x → Rf w (fun k => o k = 4 + i) q 16 x.2
  lp : o g = 1
  lt : ∀ k, vt.ownBlock = some k → o k = 2
  lr : ∀ k, vr.ownBlock = some k → o k = 3
  bnd : ∀ k, o k ≠ 0 → k < w.heap.size
  ok : b.Ok
def Rb (w : World) (g : Nat) (o : Nat → Nat) (b : Bz) : Prop := ∃ cs vt vr ts ps, RbX w g o b cs vt vr ts ps
theorem RbX.but {S : Nat → Prop} {w w' : World} {g : Nat} {o : Nat → Nat} {b : Bz} {cs : Array Value} {vt vr : Value} {ts : List Int} {ps : List Nat} (x : RbX w g o b cs vt vr ts ps) (h : But S w w') (hs : ∀ k, o k ≠ 0 → ¬ S k) : RbX w' g o b cs vt vr ts ps :=
  { x with
    at0 := (h.block g (blk_lt x.at0) (hs g (by rw [x.lp]; decide))).trans x.at0
    ownT := own_but x.ownT h (fun k hk => hs k (by rw [x.lt k hk]; decide))
    ownR := own_but x.ownR h (fun k hk => hs k (by rw [x.lr k hk]; decide))
    rings := fun i q y hq hy => (x.rings i q y hq hy).but h (fun k hk => hs k (by rw [hk]; omega))
    bnd := fun k hk => Nat.lt_of_lt_of_le (x.bnd k hk) h.size }
theorem Rb.but {S : Nat → Prop} {w w' : World} {g : Nat} {o : Nat → Nat} {b : Bz} (x : Rb w g o b) (h : But S w w') (hs : ∀ k, o k ≠ 0 → ¬ S k) : Rb w' g o b := by
  obtain ⟨cs, vt, vr, ts, ps, x⟩ := x
  exact ⟨cs, vt, vr, ts, ps, x.but h hs⟩
theorem RbX.after {w w' : World} {g : Nat} {o : Nat → Nat} {b : Bz} {cs : Array Value} {vt vr : Value} {ts : List Int} {ps : List Nat} (x : RbX w g o b cs vt vr ts ps) (h : After w w') : RbX w' g o b cs vt vr ts ps := x.but h (fun _ _ t => t)
theorem Rb.after {w w' : World} {g : Nat} {o : Nat → Nat} {b : Bz} (x : Rb w g o b) (h : After w w') : Rb w' g o b := x.but h (fun _ _ t => t)
theorem Rb.lt {w : World} {g : Nat} {o : Nat → Nat} {b : Bz} (x : Rb w g o b) : g < w.heap.size := by
  obtain ⟨cs, vt, vr, ts, ps, x⟩ := x
  exact blk_lt x.at0
theorem Rb.bnd {w : World} {g : Nat} {o : Nat → Nat} {b : Bz} (x : Rb w g o b) : ∀ k, o k ≠ 0 → k < w.heap.size := by
  obtain ⟨cs, vt, vr, ts, ps, x⟩ := x
  exact x.bnd
theorem Rb.ok {w : World} {g : Nat} {o : Nat → Nat} {b : Bz} (x : Rb w g o b) : b.Ok := by
  obtain ⟨cs, vt, vr, ts, ps, x⟩ := x
  exact x.ok
theorem RbX.tlen {w : World} {g : Nat} {o : Nat → Nat} {b : Bz} {cs : Array Value} {vt vr : Value} {ts : List Int} {ps : List Nat} (x : RbX w g o b cs vt vr ts ps) : ts.length = b.ls.length := by rw [x.hts, List.length_map]
/-- A cell of the bus is stored into. -/
theorem RbX.put {w : World} {g : Nat} {o : Nat → Nat} {b : Bz} {cs : Array Value} {vt vr : Value} {ts : List Int} {ps : List Nat} (x : RbX w g o b cs vt vr ts ps) (i : Nat) (u : Value) :
    (w.setCell ⟨g, i, none⟩ u).heap[g]? = some (.cells (cs.setIfInBounds i u) 62 (0, 0)) ∧ ORow inE 3 (w.setCell ⟨g, i, none⟩ u) 0 vt ts ∧ ORow ptE 72 (w.setCell ⟨g, i, none⟩ u) 0 vr ps ∧ (∀ i' q y, ps[i']? = some q → b.ls[i']? = some y → Rf (w.setCell ⟨g, i, none⟩ u) (fun k => o k = 4 + i') q 16 y.2) ∧ (∀ k, o k ≠ 0 → k < (w.setCell ⟨g, i, none⟩ u).heap.size) ∧ But (One g) w (w.setCell ⟨g, i, none⟩ u) := by
  have hb := but_one w g i u
  have hne : ∀ k, k = g → o k = 1 := fun k e => by rw [e]; exact x.lp
  refine ⟨blk_put x.at0 i u, own_but x.ownT hb (fun k hk e => ?_), own_but x.ownR hb (fun k hk e => ?_), fun i' q y hq hy => (x.rings i' q y hq hy).but hb (fun k hk e => ?_), fun k hk => Nat.lt_of_lt_of_le (x.bnd k hk) hb.size, hb⟩
  · have h1 := hne k e; rw [x.lt k hk] at h1; cases h1
  · have h1 := hne k e; rw [x.lr k hk] at h1; cases h1
  · have h1 := hne k e
    have hk : o k = 4 + i' := hk
    omega
abbrev rbC (n fr : Int) : Array Value := #[.int .i64 n, .int .i64 fr, .slice none 0 0, .slice none 0 0, .int .i64 (-1), .int .i64 (-1), .int .i64 (-1), .int .i64 (-1), .int .i64 0]
theorem rb_new {w : World} {g : Nat} {n fr : Int} (h : w.heap[g]? = some (.cells (rbC n fr) 62 (0, 0))) (h1 : 1 ≤ n) (h2 : n ≤ 8) (h3 : 1 ≤ fr) (h4 : fr ≤ 100) : Rb w g (lone g) (Bz.new n fr) := by
  refine ⟨_, .slice none 0 0, .slice none 0 0, [], [], h, rfl, rfl, rfl, rfl, rfl, fun i hi => ?_, rfl, rfl, orow_nil inE _ _ _, orow_nil ptE _ _ _, rfl, (fun i q x hq _ => by simp at hq), if_pos rfl, (fun k hk => by cases hk), (fun k hk => by cases hk), fun k hk => by rw [lone_ne hk]; exact blk_lt h, new_ok h1 h2 h3 h4⟩
  rcases (by omega : i = 0 ∨ i = 1 ∨ i = 2 ∨ i = 3) with rfl | rfl | rfl | rfl <;> rfl
theorem rbNew_ok (w : World) (n fr : Int) (h1 : 1 ≤ n) (h2 : n ≤ 8) (h3 : 1 ≤ fr) (h4 : fr ≤ 100) : Calls Try.prog 8 #[.int .i64 n, .int .i64 fr] w fun e w' => e = .returned (.tuple #[Ptr w.heap.size, .int .i64 0]) ∧ w' = w.alloc (.cells (rbC n fr) 62) := by
  go_enter Try.func8, Try.ntmps8
  go_wp2
  go_ret2
  exact ⟨rfl, rfl⟩
theorem rbNew_no (w : World) (n fr : Int) (h : n < 1 ∨ 8 < n ∨ fr < 1 ∨ 100 < fr) : Calls Try.prog 8 #[.int .i64 n, .int .i64 fr] w fun e w' => e = .returned (.tuple #[.pointer none, .int .i64 2]) ∧ w' = w := by
  by_cases a1 : n < 1
  · go_enter Try.func8, Try.ntmps8
    go_wp2
    go_ret2
    exact ⟨rfl, rfl⟩
  by_cases a2 : 8 < n
  · go_enter Try.func8, Try.ntmps8
    go_wp2
    go_ret2
    exact ⟨rfl, rfl⟩
  by_cases a3 : fr < 1
  · go_enter Try.func8, Try.ntmps8
    go_wp2
    go_ret2
    exact ⟨rfl, rfl⟩
  have a4 : 100 < fr := by omega
  clear h
  go_enter Try.func8, Try.ntmps8
  go_wp2
  go_ret2
  exact ⟨rfl, rfl⟩
theorem rb_at {w : World} {g : Nat} {o : Nat → Nat} {b : Bz} {cs : Array Value} {vt vr : Value} {ts : List Int} {ps : List Nat} (x : RbX w g o b cs vt vr ts ps) {t : Int} (h1 : b.ck ≤ t) (h2 : t ≤ 9223372036854775807) : Rb (w.setCell ⟨g, 8, none⟩ (.int .i64 t)) g o (b.at t) := by
  have hs := x.size
  obtain ⟨y1, y2, y3, y4, y5, _⟩ := x.put 8 (.int .i64 t)
  refine ⟨_, vt, vr, ts, ps, y1, by simp [hs], ?_, ?_, ?_, ?_, fun i hi => ?_, set_at (by omega) _, x.hts, y2, y3, x.len, y4, x.lp, x.lt, x.lr, y5, at_ok x.ok h1 h2⟩
  · rw [set_off (by omega)]; exact x.c0
  · rw [set_off (by omega)]; exact x.c1
  · rw [set_off (by omega)]; exact x.c2
  · rw [set_off (by omega)]; exact x.c3
  · rw [set_off (by omega)]; exact x.cl i hi
theorem rb_lock {w : World} {g : Nat} {o : Nat → Nat} {b : Bz} {cs : Array Value} {vt vr : Value} {ts : List Int} {ps : List Nat} (x : RbX w g o b cs vt vr ts ps) {i : Nat} (hi : i < 4) (z : Option Int) (hz : ∀ t, z = some t → 0 ≤ t ∧ t ≤ b.ck) :
    Rb (w.setCell ⟨g, 4 + i, none⟩ (.int .i64 (whd z))) g o { b with lk := setAt b.lk i z } := by
  have hs := x.size
  obtain ⟨y1, y2, y3, y4, y5, _⟩ := x.put (4 + i) (.int .i64 (whd z))
  refine ⟨_, vt, vr, ts, ps, y1, by simp [hs], ?_, ?_, ?_, ?_, fun j hj => ?_, ?_, x.hts, y2, y3, x.len, y4, x.lp, x.lt, x.lr, y5, ⟨x.ok.n1, x.ok.n2, x.ok.f1, x.ok.f2, x.ok.c1, x.ok.c2, x.ok.len, fun k t ht => ?_⟩⟩
  · rw [set_off (by omega)]; exact x.c0
  · rw [set_off (by omega)]; exact x.c1
  · rw [set_off (by omega)]; exact x.c2
  · rw [set_off (by omega)]; exact x.c3
  · show _ = some (Value.int .i64 (whd (setAt b.lk i z j)))
    by_cases e : j = i
    · subst e
      rw [set_at (by omega), setAt_same]
    · rw [set_off (by omega), setAt_other _ _ e]; exact x.cl j hj
  · rw [set_off (by omega)]; exact x.c8
  · have ht : setAt b.lk i z k = some t := ht
    unfold setAt at ht
    split at ht
    · exact hz t ht
    · exact x.ok.lks k t ht
theorem asked_no (w : World) (g : Nat) {i : Int} (h : i < 0 ∨ 3 < i) (t : Int) : Calls Try.prog 39 #[Ptr g, .int .i64 i, .int .i64 t] w fun e w' => e = .returned (.int .i64 2) ∧ w' = w := by
  by_cases g1 : i < 0
  · clear h
    go_enter Try.func39, Try.ntmps39
    go_wp2
    go_ret
    exact ⟨rfl, rfl⟩
  · have g2 : 3 < i := by omega
    clear h
    go_enter Try.func39, Try.ntmps39
    go_wp2
    go_ret
    exact ⟨rfl, rfl⟩
theorem asked_early {w : World} {g : Nat} {o : Nat → Nat} {b : Bz} (x : Rb w g o b) {i : Int} (h1 : 0 ≤ i) (h2 : i ≤ 3) {t : Int} (ht : t < b.ck) : Calls Try.prog 39 #[Ptr g, .int .i64 i, .int .i64 t] w fun e w' => e = .returned (.int .i64 9) ∧ w' = w := by
  obtain ⟨cs, vt, vr, ts, ps, x⟩ := x
  have c := blk_cell x.at0 x.c8
  have g1 : ¬ i < 0 := by omega
  have g2 : ¬ 3 < i := by omega
  clear x h1 h2
  go_enter Try.func39, Try.ntmps39
  go_wp2
  go_ret
  exact ⟨rfl, rfl⟩
theorem asked_ok {w : World} {g : Nat} {o : Nat → Nat} {b : Bz} (x : Rb w g o b) {i : Int} (h1 : 0 ≤ i) (h2 : i ≤ 3) {t : Int} (ht : b.ck ≤ t) (ht2 : t ≤ 9223372036854775807) : Calls Try.prog 39 #[Ptr g, .int .i64 i, .int .i64 t] w fun e w' => e = .returned (.int .i64 0) ∧ Rb w' g o (b.at t) ∧ But (One g) w w' := by
  obtain ⟨cs, vt, vr, ts, ps, x⟩ := x
  have c := blk_cell x.at0 x.c8
  have f := blk_soft x.at0 8
  have HX := hideIt (And.intro (rb_at x ht ht2) (but_one w g 8 (.int .i64 t)))
  have g1 : ¬ i < 0 := by omega
  have g2 : ¬ 3 < i := by omega
  have g3 : ¬ t < b.ck := by omega
  clear x h1 h2 ht ht2
  go_enter Try.func39, Try.ntmps39
  go_wp2
  go_ret
  exact ⟨rfl, HX.out⟩
theorem Rb.lockAt {w : World} {g : Nat} {o : Nat → Nat} {b : Bz} (x : Rb w g o b) {i : Nat} (hi : i < 4) : w.cell? ⟨g, 4 + i, none⟩ = some (.int .i64 (whd (b.lk i))) ∧ w.frozen? ⟨g, 4 + i, none⟩ = false ∧ w.cell? ⟨g, 1, none⟩ = some (.int .i64 b.fr) := by
  obtain ⟨cs, vt, vr, ts, ps, x⟩ := x
  exact ⟨blk_cell x.at0 (x.cl i hi), blk_soft x.at0 _, blk_cell x.at0 x.c1⟩
theorem rfree_no (w : World) (g : Nat) {i : Int} (h : i < 0 ∨ 3 < i) (t : Int) : Calls Try.prog 22 #[Ptr g, .int .i64 i, .int .i64 t] w fun e w' => e = .returned (.int .i64 2) ∧ w' = w := by
  have H := hideIt (asked_no w g h t)
  clear h
  go_enter Try.func22, Try.ntmps22
  go_wp2_with (go_at_call 39; refine H.out.mono ?_; rintro e w' ⟨rfl, rfl⟩)
  go_ret
  exact ⟨rfl, rfl⟩
theorem rfree_early {w : World} {g : Nat} {o : Nat → Nat} {b : Bz} (x : Rb w g o b) {i : Int} (h1 : 0 ≤ i) (h2 : i ≤ 3) {t : Int} (ht : t < b.ck) : Calls Try.prog 22 #[Ptr g, .int .i64 i, .int .i64 t] w fun e w' => e = .returned (.int .i64 9) ∧ w' = w := by
  have H := hideIt (asked_early x h1 h2 ht)
  clear x h1 h2 ht
  go_enter Try.func22, Try.ntmps22
  go_wp2_with (go_at_call 39; refine H.out.mono ?_; rintro e w' ⟨rfl, rfl⟩)
  go_ret
  exact ⟨rfl, rfl⟩
theorem rfree_yes {w : World} {g : Nat} {o : Nat → Nat} {b : Bz} (x : Rb w g o b) {i : Nat} (hi : i < 4) {t : Int} (ht : b.ck ≤ t) (ht2 : t ≤ 9223372036854775807) : Calls Try.prog 22 #[Ptr g, .int .i64 (i : Int), .int .i64 t] w fun e w' => e = .returned (.int .i64 0) ∧ Rb w' g o (b.free i t) ∧ But (One g) w w' := by
  have H := hideIt (asked_ok (i := (i : Int)) x (by omega) (by omega) ht ht2)
  have h0 : 0 ≤ t := Int.le_trans x.ok.c1 ht
  have i1 : (0 : Int) ≤ (i : Int) := by omega
  have i2 : (i : Int) < 4 := by omega
  clear x ht ht2
  go_enter Try.func22, Try.ntmps22
  go_wp2_with fail
  refine H.out.mono ?_
  rintro e w1 ⟨rfl, x1, b1⟩
  obtain ⟨c0, c1, _⟩ := x1.lockAt hi
  have HX := hideIt (And.intro x1 b1)
  clear x1 b1 H
  go_wp2_with fail
  go_ret
  obtain ⟨⟨cs, vt, vr, ts, ps, x1⟩, b1⟩ := HX.out
  exact ⟨rfl, rb_lock x1 hi (some t) (fun a ha => by cases ha; exact ⟨h0, Int.le_refl t⟩), b1.trans (but_one _ _ _ _)⟩
theorem rset_no (w : World) (g : Nat) {i : Int} (h : i < 0 ∨ 3 < i) : Calls Try.prog 23 #[Ptr g, .int .i64 i] w fun e w' => e = .returned (.int .i64 2) ∧ w' = w := by
  by_cases g1 : i < 0
  · clear h
    go_enter Try.func23, Try.ntmps23
    go_wp2
    go_ret
    exact ⟨rfl, rfl⟩
  · have g2 : 3 < i := by omega
    clear h
    go_enter Try.func23, Try.ntmps23
    go_wp2
    go_ret
    exact ⟨rfl, rfl⟩
theorem rset_yes {w : World} {g : Nat} {o : Nat → Nat} {b : Bz} (x : Rb w g o b) {i : Nat} (hi : i < 4) : Calls Try.prog 23 #[Ptr g, .int .i64 (i : Int)] w fun e w' => e = .returned (.int .i64 0) ∧ Rb w' g o (b.set i) ∧ But (One g) w w' := by
  obtain ⟨c0, c1, _⟩ := x.lockAt hi
  have i1 : (0 : Int) ≤ (i : Int) := by omega
  have i2 : (i : Int) < 4 := by omega
  have i3 : ¬ (i : Int) < 0 := by omega
  have i4 : ¬ 3 < (i : Int) := by omega
  have HX := hideIt x
  clear x
  go_enter Try.func23, Try.ntmps23
  go_wp2_with fail
  go_ret
  obtain ⟨cs, vt, vr, ts, ps, x1⟩ := HX.out
  exact ⟨rfl, rb_lock x1 hi none (fun a ha => by cases ha), but_one _ _ _ _⟩
theorem rlocked_no (w : World) (g : Nat) {i : Int} (h : i < 0 ∨ 3 < i) (t : Int) : Calls Try.prog 24 #[Ptr g, .int .i64 i, .int .i64 t] w fun e w' => e = .returned (.tuple #[.bool false, .int .i64 2]) ∧ w' = w := by
  have H := hideIt (asked_no w g h t)
  clear h
  go_enter Try.func24, Try.ntmps24
  go_wp2_with (go_at_call 39; refine H.out.mono ?_; rintro e w' ⟨rfl, rfl⟩)
  go_ret2
  exact ⟨rfl, rfl⟩
theorem rlocked_early {w : World} {g : Nat} {o : Nat → Nat} {b : Bz} (x : Rb w g o b) {i : Int} (h1 : 0 ≤ i) (h2 : i ≤ 3) {t : Int} (ht : t < b.ck) : Calls Try.prog 24 #[Ptr g, .int .i64 i, .int .i64 t] w fun e w' => e = .returned (.tuple #[.bool false, .int .i64 9]) ∧ w' = w := by
  have H := hideIt (asked_early x h1 h2 ht)
  clear x h1 h2 ht
  go_enter Try.func24, Try.ntmps24
  go_wp2_with (go_at_call 39; refine H.out.mono ?_; rintro e w' ⟨rfl, rfl⟩)
  go_ret2
  exact ⟨rfl, rfl⟩
set_option maxHeartbeats 1000000 in
theorem rlocked_yes {w : World} {g : Nat} {o : Nat → Nat} {b : Bz} (x : Rb w g o b) {i : Nat} (hi : i < 4) {t : Int} (ht : b.ck ≤ t) (ht2 : t ≤ 9223372036854775807) : Calls Try.prog 24 #[Ptr g, .int .i64 (i : Int), .int .i64 t] w fun e w' => e = .returned (.tuple #[.bool (b.locked i t), .int .i64 0]) ∧ Rb w' g o (b.at t) ∧ But (One g) w w' := by
  have H := hideIt (asked_ok (i := (i : Int)) x (by omega) (by omega) ht ht2)
  have i1 : (0 : Int) ≤ (i : Int) := by omega
  have i2 : (i : Int) < 4 := by omega
  have hz : ∀ a, b.lk i = some a → 0 ≤ a ∧ a ≤ t := fun a ha => ⟨(x.ok.lks i a ha).1, Int.le_trans (x.ok.lks i a ha).2 ht⟩
  have hr : b.locked i t = lockd b.fr t (b.lk i) := rfl
  rw [hr]
  obtain ⟨z, hzz⟩ : ∃ z, z = b.lk i := ⟨_, rfl⟩
  rw [← hzz] at hz ⊢
  obtain ⟨R, hR⟩ : ∃ R, R = lockd b.fr t z := ⟨_, rfl⟩
  rw [← hR]
  have HZ := hideIt (And.intro hzz (And.intro hR (And.intro hz ht2)))
  clear x ht hr hzz hR hz ht2
  go_enter Try.func24, Try.ntmps24
  go_wp2_with fail
  refine H.out.mono ?_
  rintro e w1 ⟨rfl, x1, b1⟩
  obtain ⟨c0, _, c1⟩ := x1.lockAt hi
  have HX := hideIt (And.intro x1 b1)
  clear x1 b1 H
  dsimp only [Bz.at] at c0 c1
  rw [← HZ.out.1] at c0
  cases z with
  | none =>
    obtain rfl : R = true := HZ.out.2.1
    have e : whd none = -1 := rfl
    rw [e] at c0
    go_wp2_with fail
    go_region
    go_wp2_with fail
    go_ret2
    exact ⟨rfl, HX.out.1.after (After.rfl.draws 1), HX.out.2.draws 1⟩
  | some a =>
    obtain ⟨a1, a2⟩ := HZ.out.2.2.1 a rfl
    have e : whd (some a) = a := rfl
    rw [e] at c0
    have hw : IntKind.i64.wrap (t - a) = t - a := wrap_small _ (by have := HZ.out.2.2.2; omega) (by have := HZ.out.2.2.2; omega)
    have a3 : ¬ a < 0 := by omega
    have a4 : decide (a < 0) = false := decide_eq_false a3
    clear a1 a2
    by_cases q : b.fr ≤ t - a
    · obtain rfl : R = true := HZ.out.2.1.trans (decide_eq_true q)
      have q1 : decide (b.fr ≤ t - a) = true := decide_eq_true q
      go_wp2_with fail
      go_region
      go_wp2_with fail
      go_ret2
      exact ⟨rfl, HX.out.1.after (After.rfl.draws 1), HX.out.2.draws 1⟩
    · obtain rfl : R = false := HZ.out.2.1.trans (decide_eq_false q)
      have q1 : decide (b.fr ≤ t - a) = false := decide_eq_false q
      go_wp2_with fail
      go_region
      go_wp2_with fail
      go_ret2
      exact ⟨rfl, HX.out.1.after (After.rfl.draws 1), HX.out.2.draws 1⟩
end Go.Proofs.Ytajjfklglnefkaa
