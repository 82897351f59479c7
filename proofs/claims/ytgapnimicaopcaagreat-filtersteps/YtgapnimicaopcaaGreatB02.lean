/-
  Laid together: FiG, FiR, FiS, FiT.
-/
import Derived.Test.YtgapnimicaopcaaGreatB01
import Derived.Test.YtgapnimicaopcaaGreatR2Pack
import Derived.Test.YtgapnimicaopcaaGreatR2Fix
/-
  A task: its state, begun anew; it hears a real; its reading.
-/
namespace Go.Proofs.YtgapnimicaopcaaGreat
open Go.RowKit
set_option maxRecDepth 8000
theorem state_any {w : World} {p q : Nat} {v : Value} {S : Nat → Prop} {c : Cf} {s : Ts} (x : TkX w p q v S c s) (t : Int) : Calls Tryz.prog 17 #[Ptr p, .int .i64 t] w fun e w' => e = .returned (.int .i64 (s.at_ c t)) ∧ w' = w := by
  have c4 := blk_cell x.at0 (i := 4) rfl
  have H := hideIt (L13.lpState_any x.lap t)
  clear x
  unfold Ts.at_
  generalize s.lp.ans c.st t = A at *
  generalize s.lp.err t = E at *
  go_enter Tryz.func17, Tryz.ntmps17
  go_wp2_with (go_at_call 39; refine H.out.mono ?_; rintro e w' ⟨rfl, rfl⟩)
  go_ret
  exact ⟨rfl, rfl⟩
theorem Cf.Ok.mayK {c : Cf} (h : c.Ok) : MayK c.k c.n := by
  unfold MayK L9.May L10.May L11.May L12.May
  have := h.kind
  omega
/-- Blocks of a task: its own, its lapse's, those of what is inside. -/
def Ta (p q : Nat) (S : Nat → Prop) : Nat → Prop := fun i => i = p ∨ i = q ∨ S i
theorem TkX.fresh {w w1 : World} {p q : Nat} {v v' : Value} {S S' : Nat → Prop} {c : Cf} {s : Ts} (x : TkX w p q v S c s) (a : After w w1) (i1 : Ins w1 c.k c.n S' Si.new v') (hS : ∀ i, S' i → w.heap.size ≤ i) :
    TkX (((w1.setCell ⟨p, 3, none⟩ v').setCell ⟨p, 5, none⟩ (.int .i64 0)).setCell ⟨p, 6, none⟩ (.bool false)) p q v' S' c s.anew ∧ But (One p) w (((w1.setCell ⟨p, 3, none⟩ v').setCell ⟨p, 5, none⟩ (.int .i64 0)).setCell ⟨p, 6, none⟩ (.bool false)) := by
  have h1 := (a.block p x.lt (fun t => t)).trans x.at0
  have np' : ¬ S' p := fun h => by have := hS p h; have := x.lt; omega
  have nq' : ¬ S' q := fun h => by have := hS q h; have := x.lap.lt; omega
  have b2 : But (One p) w1 (((w1.setCell ⟨p, 3, none⟩ v').setCell ⟨p, 5, none⟩ (.int .i64 0)).setCell ⟨p, 6, none⟩ (.bool false)) := ((but_one w1 p 3 _).trans (but_one _ p 5 _)).trans (but_one _ p 6 _)
  refine ⟨{ at0 := ?_, lap := (x.lap.after a).but b2 (fun e => x.ne e.symm), ins := i1.but b2 (fun i hi e => by cases e; exact np' hi), ok := x.ok, ne := x.ne, np := np', nq := nq', lo := x.lo, hi := x.hi }, ?_⟩
  · exact blk_put (blk_put (blk_put h1 3 v') 5 (.int .i64 0)) 6 (.bool false)
  · exact a.but.trans b2
theorem Ins.iface {w : World} {k n : Nat} {S : Nat → Prop} {s : Si} {v : Value} (x : Ins w k n S s v) : ∃ T u, v = .iface T u := by
  rcases x with ⟨_, h, _⟩ | ⟨_, p, h, _⟩ | ⟨_, p, h, _⟩ | ⟨_, p, h, _⟩ | ⟨_, q, p, B, u, T, h, _⟩
  all_goals exact ⟨_, _, h⟩
theorem anew_any {w : World} {p q : Nat} {v : Value} {S : Nat → Prop} {c : Cf} {s : Ts} (x : TkX w p q v S c s) : Calls Tryz.prog 18 #[Ptr p] w fun e w' => e = .returned (.tuple #[]) ∧ ∃ v' S', TkX w' p q v' S' c s.anew ∧ (∀ i, S' i → w.heap.size ≤ i) ∧ But (One p) w w' := by
  have c0 := blk_cell x.at0 (i := 0) rfl
  have c1 := blk_cell x.at0 (i := 1) rfl
  have c2 := blk_cell x.at0 (i := 2) rfl
  have H := hideIt (insideOf_ok w c.k c.n c.st x.ok.mayK)
  have HX := hideIt x
  clear x
  go_enter Tryz.func18, Tryz.ntmps18
  go_wp2_with fail
  refine H.out.mono ?_
  rintro e w1 ⟨v', S', rfl, hx1⟩
  obtain ⟨T, u, rfl⟩ := hx1.1.iface
  have g1 := (hx1.2.2.block p HX.out.lt (fun t => t)).trans HX.out.at0
  have d3 := blk_cell g1 (i := 3) rfl
  have d5 := blk_cell g1 (i := 5) rfl
  have d6 := blk_cell g1 (i := 6) rfl
  have s3 := blk_soft g1 3
  have s5 := blk_soft g1 5
  have s6 := blk_soft g1 6
  have HY := hideIt hx1
  clear g1 hx1 c0 c1 c2
  go_wp2_with fail
  obtain ⟨i1, hS, a1⟩ := HY.out
  have hr := HX.out.fresh a1 i1 hS
  exact bodyPost_end (v := .tuple #[]) (by simp [results, Tryz.results18, go_sem]) rfl ⟨rfl, .iface T u, S', hr.1, hS, hr.2⟩
/-- A real, by value. -/
abbrev Rl.val (r : Rl) : Value := .agg #[.int .i64 r.k, .int .i64 r.m, .int .i64 r.e]
/-- The lapse has heard. -/
theorem TkX.lap_ {w w1 : World} {p q : Nat} {v : Value} {S : Nat → Prop} {c : Cf} {s : Ts} (x : TkX w p q v S c s) {t : Int} {o : Bool} (l : L13.LpX w1 q c.st (s.lp.hear t o)) (b : But (One q) w w1) : TkX w1 p q v S c (s.lap t o) :=
  { at0 := (b.block p x.lt (fun e => x.ne e)).trans x.at0, lap := l, ins := x.ins.but b (fun i hi e => by cases e; exact x.nq hi), ok := x.ok, ne := x.ne, np := x.np, nq := x.nq, lo := x.lo, hi := x.hi }
theorem fixed_any (r : Rl) (w : World) : Calls Tryz.prog 40 #[r.val] w fun x w' => x = .returned (.tuple #[.int .i64 (if r.num = true then r.fix else 0), .bool r.num]) ∧ After w w' := by
  unfold Rl.num Rl.fix
  rcases hn : L2.numB r.k r.m r.e with _ | _
  · refine (L2.fixed_no r.k r.m r.e w hn).mono ?_
    rintro e w' ⟨rfl, ha⟩
    exact ⟨rfl, After.of ha⟩
  · have hb := L2.num_bd hn
    refine (L2.fixed_yes r.k r.m r.e w hn hb.2.2.2.1 hb.2.2.2.2).mono ?_
    rintro e w' ⟨rfl, ha⟩
    exact ⟨rfl, After.of ha⟩
theorem hear_any {w : World} {p q : Nat} {v : Value} {S : Nat → Prop} {c : Cf} {s : Ts} (x : TkX w p q v S c s) (t : Int) (r : Rl) : Calls Tryz.prog 19 #[Ptr p, .int .i64 t, r.val] w fun e w' => e = .returned (.tuple #[]) ∧ ∃ S', TkX w' p q v S' c (s.hear c t r) ∧ (∀ i, S' i → S i ∨ w.heap.size ≤ i) ∧ But (Ta p q S) w w' := by
  have HF := hideIt (fun W => fixed_any r W)
  have HX := hideIt x
  unfold Ts.hear
  rcases hn : r.num with _ | _
  · rw [hn] at HF
    by_cases h2 : r.k = 2
    · rw [if_neg (by simp), if_pos h2]
      obtain ⟨k, m, e⟩ := r
      dsimp only at h2
      subst h2
      clear x hn
      go_enter Tryz.func19, Tryz.ntmps19
      go_wp2_with fail
      refine (HF.out _).mono ?_
      rintro e w1 ⟨rfl, a1⟩
      have aw : After w w1 := (After.rfl.alloc _).trans a1
      have x1 := HX.out.after aw
      have c4 := blk_cell x1.at0 (i := 4) rfl
      have d0 := a1.cell (g := w.heap.size) (by simp) 0
      have H := hideIt (L13.lpHeard_any x1.lap t true)
      have HY := hideIt (And.intro x1 aw)
      clear x1 a1 aw
      go_wp2_with (go_at_call 41; refine H.out.mono ?_; rintro e w2 ⟨rfl, l2, b2⟩)
      obtain ⟨x1, aw⟩ := HY.out
      exact bodyPost_end (v := .tuple #[]) (by simp [results, Tryz.results19, go_sem]) rfl ⟨rfl, S, x1.lap_ l2 b2, new_in, aw.but.then b2 (fun i _ e => .inr (.inl e))⟩
    · rw [if_neg (by simp), if_neg h2]
      clear x hn
      go_enter Tryz.func19, Tryz.ntmps19
      go_wp2_with fail
      refine (HF.out _).mono ?_
      rintro e w1 ⟨rfl, a1⟩
      have d0 := a1.cell (g := w.heap.size) (by simp) 0
      go_wp2_with fail
      have aw : After w w1 := (After.rfl.alloc _).trans a1
      exact bodyPost_end (v := .tuple #[]) (by simp [results, Tryz.results19, go_sem]) rfl ⟨rfl, S, HX.out.after aw, new_in, aw.but⟩
  · rw [hn, if_pos rfl] at HF
    rw [if_pos rfl]
    generalize r.fix = y at *
    clear x hn
    go_enter Tryz.func19, Tryz.ntmps19
    go_wp2_with fail
    refine (HF.out _).mono ?_
    rintro e w1 ⟨rfl, a1⟩
    have aw : After w w1 := (After.rfl.alloc _).trans a1
    have x1 := HX.out.after aw
    have c4 := blk_cell x1.at0 (i := 4) rfl
    have H := hideIt (L13.lpHeard_any x1.lap t false)
    have HY := hideIt (And.intro x1 aw)
    clear x1 a1 aw
    go_wp2_with fail
    refine H.out.mono ?_
    rintro e w2 ⟨rfl, l2, b2⟩
    have x2 := HY.out.1.lap_ l2 b2
    have H3 := hideIt (take_any x2 t y)
    have HZ := hideIt (And.intro b2 HY.out.2)
    clear l2 b2 x2 HY HX
    go_wp2_with fail
    refine H3.out.mono ?_
    rintro e w3 ⟨rfl, S', x3, hS, b3⟩
    have HW := hideIt (And.intro x3 (And.intro hS b3))
    clear x3 hS b3
    go_wp2_with fail
    obtain ⟨x3, hS, b3⟩ := HW.out
    obtain ⟨b2, aw⟩ := HZ.out
    have hsz := Nat.le_trans aw.size b2.size
    exact bodyPost_end (v := .tuple #[]) (by simp [results, Tryz.results19, go_sem]) rfl ⟨rfl, S', x3, fun i hi => (hS i hi).imp id (fun h => Nat.le_trans hsz h), (aw.but.then b2 (fun i _ e => .inr (.inl e))).then b3 (fun i _ e => e.elim .inl (fun h => .inr (.inr h)))⟩
end Go.Proofs.YtgapnimicaopcaaGreat
/-
  Reals in rows; which steps may be; a reading.
-/
namespace Go.Proofs.YtgapnimicaopcaaGreat
open Go.RowKit
set_option maxRecDepth 8000
/-- Reals lie where a slice of n places leads. -/
def RRow (w : World) (a : Option Addr) (n : Nat) (xs : List Rl) : Prop :=
  xs.length = n ∧ ∀ i, i < n → ∃ b off x, a = some ⟨b, off, none⟩ ∧ b < w.heap.size ∧ xs[i]? = some x ∧ w.cell? ⟨b, off + i * 3, none⟩ = some (.int .i64 x.k) ∧ w.cell? ⟨b, off + i * 3 + 1, none⟩ = some (.int .i64 x.m) ∧ w.cell? ⟨b, off + i * 3 + 2, none⟩ = some (.int .i64 x.e)
theorem RRow.but {S : Nat → Prop} {w w' : World} {a n xs} (h : RRow w a n xs) (ha : But S w w') (hn : ∀ x, a = some x → 0 < n → ¬ S x.block) : RRow w' a n xs :=
  ⟨h.1, fun i hi => by
    obtain ⟨b, off, x, e, hb, hx, h1, h2, h3⟩ := h.2 i hi
    have hnb := hn _ e (by omega)
    exact ⟨b, off, x, e, Nat.lt_of_lt_of_le hb ha.size, hx, (ha.cell hb hnb _).trans h1, (ha.cell hb hnb _).trans h2, (ha.cell hb hnb _).trans h3⟩⟩
theorem RRow.after {w w' : World} {a n xs} (h : RRow w a n xs) (ha : After w w') : RRow w' a n xs := h.but ha (fun _ _ _ t => t)
theorem RRow.nil (w : World) (a : Option Addr) : RRow w a 0 [] := ⟨rfl, fun i hi => absurd hi (by omega)⟩
theorem RRow.lt {w : World} {a n xs} (h : RRow w a n xs) (hn : 0 < n) : ∃ b off, a = some ⟨b, off, none⟩ ∧ b < w.heap.size := by
  obtain ⟨b, off, x, e, hb, _⟩ := h.2 0 hn
  exact ⟨b, off, e, hb⟩
theorem RRow.at_ {w : World} {a n xs} (h : RRow w a n xs) {i : Nat} (hi : i < n) : ∃ b off x, a = some ⟨b, off, none⟩ ∧ b < w.heap.size ∧ xs[i]? = some x ∧ w.cell? ⟨b, off + i * 3, none⟩ = some (.int .i64 x.k) ∧ w.cell? ⟨b, off + i * 3 + 1, none⟩ = some (.int .i64 x.m) ∧ w.cell? ⟨b, off + i * 3 + 2, none⟩ = some (.int .i64 x.e) := h.2 i hi
theorem mayBe_any (r : Rl) (w : World) : Calls Tryz.prog 38 #[r.val] w fun x w' => x = .returned (.bool r.may) ∧ After w w' := by
  have H := hideIt (fun W => L2.packLong_any r.k r.m r.e W)
  unfold Rl.may
  unfold L2.plE at H
  generalize L2.plV r.k r.m r.e = V at *
  generalize L2.mayB r.k r.m r.e = M at *
  cases M
  all_goals
    simp only [if_true, if_false, Bool.false_eq_true] at H
    go_enter Tryz.func38, Tryz.ntmps38
    go_wp2_with (go_at_call 52; refine (H.out _).mono ?_; rintro e w1 ⟨rfl, ha⟩)
    go_ret
    exact ⟨rfl, (After.rfl.alloc _).trans (After.of ha)⟩
theorem mays_take_succ {l : List Rl} {j : Nat} {x : Rl} (h : l[j]? = some x) : mays (l.take (j + 1)) = (mays (l.take j) && x.may) := by
  unfold mays
  rw [List.take_add_one, h]
  simp
theorem mays_no {l : List Rl} {j : Nat} {x : Rl} (h : l[j]? = some x) (hx : x.may = false) : mays l = false := by
  unfold mays
  rw [List.all_eq_false]
  exact ⟨x, List.mem_of_getElem? h, by simp [hx]⟩
/-- A task that is none. -/
def NoneT (w : World) (v : Value) : Prop := v = .pointer none ∨ ∃ p x0 x1 x2 x3 x5 x6 x7, v = Ptr p ∧ w.heap[p]? = some (.cells #[x0, x1, x2, x3, .pointer none, x5, x6, x7] 53 (0, 0))
theorem NoneT.after {w w' : World} {v : Value} (h : NoneT w v) (a : After w w') : NoneT w' v := by
  rcases h with h | ⟨p, x0, x1, x2, x3, x5, x6, x7, h, hp⟩
  · exact .inl h
  · exact .inr ⟨p, x0, x1, x2, x3, x5, x6, x7, h, (a.block p (blk_lt hp) (fun t => t)).trans hp⟩
theorem check_none {w : World} {v : Value} (h : NoneT w v) (t : Int) (a : Option Addr) (n c : Nat) : Calls Tryz.prog 16 #[v, .int .i64 t, .slice a n c] w fun e w' => e = .returned (.int .i64 1) ∧ w' = w := by
  rcases h with rfl | ⟨p, x0, x1, x2, x3, x5, x6, x7, rfl, hp⟩
  · go_enter Tryz.func16, Tryz.ntmps16
    go_wp2
    go_ret
    exact ⟨rfl, rfl⟩
  · have c4 := blk_cell hp (i := 4) rfl
    clear hp
    go_enter Tryz.func16, Tryz.ntmps16
    go_wp2
    go_ret
    exact ⟨rfl, rfl⟩
theorem stepT_none {w : World} {v : Value} (h : NoneT w v) (t : Int) (a : Option Addr) (n c : Nat) : Calls Tryz.prog 9 #[v, .int .i64 t, .slice a n c] w fun e w' => e = .returned (.tuple #[.agg #[.int .i64 0, .int .i64 0], .int .i64 1]) ∧ After w w' := by
  have H := hideIt (fun W (a1 : After w W) => check_none (h.after a1) t a n c)
  clear h
  go_enter Tryz.func9, Tryz.ntmps9
  go_wp2_with (go_at_call 16; refine (H.out _ (After.rfl.alloc _)).mono ?_; rintro e w1 ⟨rfl, rfl⟩)
  exact bodyPost_ret (v := .tuple #[.agg #[.int .i64 0, .int .i64 0], .int .i64 1]) (by simp [results, Tryz.results9, go_sem]) rfl ⟨rfl, After.rfl.alloc _⟩
theorem check_any {w : World} {p q : Nat} {v : Value} {S : Nat → Prop} {c : Cf} {s : Ts} (x : TkX w p q v S c s) (t : Int) (a : Option Addr) (n d : Nat) (l : List Rl) (hr : RRow w a n l) : Calls Tryz.prog 16 #[Ptr p, .int .i64 t, .slice a n d] w fun e w' => e = .returned (.int .i64 (s.err t l)) ∧ After w w' := by
  have c4 := blk_cell x.at0 (i := 4) rfl
  have c7 := blk_cell x.at0 (i := 7) rfl
  have hl := hr.1
  clear x
  unfold Ts.err
  generalize s.next = N at *
  by_cases h1 : t < N
  · rw [if_pos (.inl h1)]
    clear hr
    go_enter Tryz.func16, Tryz.ntmps16
    go_wp2
    go_ret
    exact ⟨rfl, After.rfl⟩
  by_cases h2 : 2147483647 < t
  · rw [if_pos (.inr h2)]
    clear hr
    go_enter Tryz.func16, Tryz.ntmps16
    go_wp2
    go_ret
    exact ⟨rfl, After.rfl⟩
  rw [if_neg (by omega), hl]
  by_cases h3 : 64 < n
  · rw [if_pos h3]
    have h3' : (64 : Int) < (n : Int) := by omega
    clear hr h3
    go_enter Tryz.func16, Tryz.ntmps16
    go_wp2
    go_ret
    exact ⟨rfl, After.rfl⟩
  rw [if_neg h3]
  have h3' : ¬ (64 : Int) < (n : Int) := by omega
  have HR := hideIt hr
  clear hr h3
  obtain ⟨E, hE⟩ : ∃ E : Int, (if mays l = true then (0 : Int) else 2) = E := ⟨_, rfl⟩
  have HE := hideIt hE
  rw [hE]
  clear hE
  go_enter Tryz.func16, Tryz.ntmps16
  go_wp2_with fail
  go_loopw [36] (fun i wr => ∃ j : Nat, j ≤ n ∧ i = .int .i64 j ∧ mays (l.take j) = true ∧ After w wr) (fun i _ => n - (intOf i).toNat)
  case atStart => exact ⟨0, Nat.zero_le _, rfl, rfl, After.rfl⟩
  case round =>
    obtain ⟨j, hj, rfl, hm, aw⟩ := hrel
    by_cases hjn : j < n
    · have i1 : (j : Int) < (n : Int) := by omega
      obtain ⟨b, off, r, rfl, hb, hx, k0, k1, k2⟩ := HR.out.at_ hjn
      have k0' := (aw.cell hb _).trans k0
      have k1' := (aw.cell hb _).trans k1
      have k2' := (aw.cell hb _).trans k2
      have HM := hideIt (fun W => mayBe_any r W)
      have HS := hideIt (And.intro hm (And.intro hx aw))
      have hlt : b < wr.heap.size := Nat.lt_of_lt_of_le hb aw.size
      rcases hmay : r.may with _ | _
      · have HN := hideIt (mays_no hx hmay)
        rw [hmay] at HM
        clear hm hx aw k0 k1 k2 hmay
        go_wp2_with (go_at_call 38; refine (HM.out _).mono ?_; rintro e w2 ⟨rfl, a2⟩)
        go_ret
        exact ⟨ret_int (by rw [← HE.out, HN.out]; rfl), (HS.out.2.2.alloc _).trans a2⟩
      · have HN := hideIt hmay
        rw [hmay] at HM
        clear hm hx aw k0 k1 k2 hmay
        go_wp2_with (go_at_call 38; refine (HM.out _).mono ?_; rintro e w2 ⟨rfl, a2⟩)
        go_roundw
        case rel => exact ⟨j + 1, by omega, by go_num, by rw [mays_take_succ HS.out.2.1, HS.out.1, HN.out]; rfl, (HS.out.2.2.alloc _).trans a2⟩
        case measure => simp [intOf]; omega
    · have i1 : ¬ (j : Int) < (n : Int) := by omega
      have HS := hideIt (And.intro hm aw)
      clear hm aw
      go_wp2
      go_ret
      have hjn' : j = n := by omega
      have hm := HS.out.1
      rw [hjn', ← hl, List.take_length] at hm
      exact ⟨ret_int (by rw [← HE.out, if_pos hm]), HS.out.2⟩
theorem reading_any {w : World} {p q : Nat} {v : Value} {S : Nat → Prop} {c : Cf} {s : Ts} (x : TkX w p q v S c s) (st : Int) : Calls Tryz.prog 20 #[Ptr p, .int .i64 st] w fun e w' => e = .returned (.agg #[.int .i64 (s.rd st).s, .int .i64 (s.rd st).v]) ∧ After w w' := by
  have c5 := blk_cell x.at0 (i := 5) rfl
  have c6 := blk_cell x.at0 (i := 6) rfl
  have hlt := x.lt
  clear x
  unfold Ts.rd
  generalize s.value = V at *
  generalize s.known = K at *
  cases K
  · by_cases h1 : st = 1
    · subst h1
      go_enter Tryz.func20, Tryz.ntmps20
      go_wp2
      exact bodyPost_ret (v := .agg #[.int .i64 0, .int .i64 0]) (by simp [results, Tryz.results20, go_sem]) rfl ⟨rfl, After.rfl.alloc _⟩
    · by_cases h2 : st = 2
      · subst h2
        go_enter Tryz.func20, Tryz.ntmps20
        go_wp2
        exact bodyPost_ret (v := .agg #[.int .i64 0, .int .i64 0]) (by simp [results, Tryz.results20, go_sem]) rfl ⟨rfl, After.rfl.alloc _⟩
      · rw [if_neg (by simp), if_neg (by omega)]
        have e1 : (st == 1) = false := by simp [h1]
        have e2 : (st == 2) = false := by simp [h2]
        go_enter Tryz.func20, Tryz.ntmps20
        go_wp2
        exact bodyPost_ret (v := .agg #[.int .i64 st, .int .i64 0]) (by simp [results, Tryz.results20, go_sem]) rfl ⟨rfl, After.rfl.alloc _⟩
  · go_enter Tryz.func20, Tryz.ntmps20
    go_wp2
    exact bodyPost_ret (v := .agg #[.int .i64 st, .int .i64 V]) (by simp [results, Tryz.results20, go_sem]) rfl ⟨rfl, After.rfl.alloc _⟩
end Go.Proofs.YtgapnimicaopcaaGreat
/-
  A step of a task; New and Check.
-/
namespace Go.Proofs.YtgapnimicaopcaaGreat
open Go.RowKit
set_option maxRecDepth 8000
/-- Behind j of what was heard. -/
def Ts.upto (c : Cf) (t : Int) (s : Ts) (l : List Rl) (j : Nat) : Ts := (l.take j).foldl (Ts.hear c t) (s.opn c t)
theorem Ts.upto_zero (c : Cf) (t : Int) (s : Ts) (l : List Rl) : s.upto c t l 0 = s.opn c t := by simp [Ts.upto]
theorem Ts.upto_succ (c : Cf) (t : Int) (s : Ts) {l : List Rl} {j : Nat} {x : Rl} (h : l[j]? = some x) : s.upto c t l (j + 1) = (s.upto c t l j).hear c t x := by
  unfold Ts.upto
  rw [List.take_add_one, h, List.foldl_append]
  rfl
theorem Ts.upto_all (c : Cf) (t : Int) (s : Ts) (l : List Rl) : s.upto c t l l.length = s.hears c t l := by
  unfold Ts.upto Ts.hears
  rw [List.take_length]
/-- A task lies at p: its blocks are within S. -/
def Tk (w : World) (p : Nat) (S : Nat → Prop) (c : Cf) (s : Ts) : Prop := ∃ q v S1, TkX w p q v S1 c s ∧ ∀ i, S i ↔ Ta p q S1 i
theorem Tk.lt {w : World} {p : Nat} {S : Nat → Prop} {c : Cf} {s : Ts} (x : Tk w p S c s) : ∀ i, S i → i < w.heap.size := by
  obtain ⟨q, v, S1, x, hs⟩ := x
  intro i hi
  rcases (hs i).1 hi with rfl | rfl | h
  · exact x.lt
  · exact x.lap.lt
  · exact x.ins.lt i h
theorem Tk.but {T : Nat → Prop} {w w' : World} {p : Nat} {S : Nat → Prop} {c : Cf} {s : Ts} (x : Tk w p S c s) (b : But T w w') (hn : ∀ i, S i → ¬ T i) : Tk w' p S c s := by
  obtain ⟨q, v, S1, x, hs⟩ := x
  exact ⟨q, v, S1, x.but b (hn p ((hs p).2 (.inl rfl))) (hn q ((hs q).2 (.inr (.inl rfl)))) (fun i hi => hn i ((hs i).2 (.inr (.inr hi)))), hs⟩
theorem Tk.after {w w' : World} {p : Nat} {S : Nat → Prop} {c : Cf} {s : Ts} (x : Tk w p S c s) (a : After w w') : Tk w' p S c s := x.but a (fun _ _ t => t)
theorem Tk.ok {w : World} {p : Nat} {S : Nat → Prop} {c : Cf} {s : Ts} (x : Tk w p S c s) : c.Ok := by
  obtain ⟨q, v, S1, x, _⟩ := x
  exact x.ok
theorem TkX.goes_ {w : World} {p q : Nat} {v : Value} {S : Nat → Prop} {c : Cf} {s : Ts} (x : TkX w p q v S c s) {t : Int} (h1 : 0 ≤ t) (h2 : t ≤ 2147483647) : TkX (w.setCell ⟨p, 7, none⟩ (.int .i64 (t + 1))) p q v S c (s.goes t) :=
  { at0 := blk_put x.at0 7 _, lap := x.lap.but (but_one w p 7 _) (fun e => x.ne e.symm), ins := x.ins.but (but_one w p 7 _) (fun i hi e => by cases e; exact x.np hi), ok := x.ok, ne := x.ne, np := x.np, nq := x.nq, lo := by show 0 ≤ t + 1; omega, hi := by show t + 1 ≤ 2147483648; omega }
theorem Ts.err_cases (s : Ts) (t : Int) (l : List Rl) : (s.err t l = 0 ∧ s.next ≤ t ∧ t ≤ 2147483647 ∧ l.length ≤ 64 ∧ mays l = true) ∨ s.err t l = 9 ∨ s.err t l = 6 ∨ s.err t l = 2 := by
  unfold Ts.err
  split
  · exact .inr (.inl rfl)
  · split
    · exact .inr (.inr (.inl rfl))
    · split
      · rename_i h
        exact .inl ⟨rfl, by omega, by omega, by omega, h⟩
      · exact .inr (.inr (.inr rfl))
/-- A step that is refused. -/
theorem stepX_no {w : World} {p q : Nat} {v : Value} {S : Nat → Prop} {c : Cf} {s : Ts} (x : TkX w p q v S c s) (t : Int) (a : Option Addr) (n d : Nat) (l : List Rl) (hr : RRow w a n l) (he : s.err t l ≠ 0) : Calls Tryz.prog 9 #[Ptr p, .int .i64 t, .slice a n d] w fun e w' => e = .returned (.tuple #[.agg #[.int .i64 0, .int .i64 0], .int .i64 (s.err t l)]) ∧ After w w' := by
  have H := hideIt (fun W (a1 : After w W) => check_any (x.after a1) t a n d l (hr.after a1))
  clear hr x
  rcases s.err_cases t l with ⟨h, _⟩ | h | h | h
  · exact absurd h he
  all_goals
    rw [h] at H
    rw [h]
    clear h he
    go_enter Tryz.func9, Tryz.ntmps9
    go_wp2_with fail
    refine (H.out _ (After.rfl.alloc _)).mono ?_
    rintro e w1 ⟨rfl, a1⟩
    have hg := (a1.block w.heap.size (by simp) (fun t => t)).trans (heap_alloc_new w _)
    obtain ⟨hg0, e0, e1, e2, e3⟩ := two_at hg
    have HA := hideIt ((After.rfl.alloc _).trans a1)
    have HG := hideIt hg
    clear hg a1
    go_wp2_with fail
    obtain ⟨_, q0, q1, _, _⟩ := two_at (two_set1 (two_set0 HG.out (.int .i64 0)) (.int .i64 0))
    exact bodyPost_ret (v := .tuple #[.agg #[.int .i64 0, .int .i64 0], .int .i64 _]) (by simp [results, Tryz.results9, go_sem, q0, q1]) rfl ⟨rfl, (HA.out.set ⟨w.heap.size, 0, none⟩ (Nat.le_refl _) _).set ⟨w.heap.size, 1, none⟩ (Nat.le_refl _) _⟩
/-- How it stands between two steps' parts. -/
def Mid (w1 : World) (p q : Nat) (S : Nat → Prop) (c : Cf) (s : Ts) (w3 : World) : Prop := ∃ v' S', TkX w3 p q v' S' c s ∧ (∀ i, S' i → S i ∨ w1.heap.size ≤ i) ∧ But (Ta p q S) w1 w3
theorem TkX.not_in {w : World} {p q : Nat} {v : Value} {S : Nat → Prop} {c : Cf} {s : Ts} (x : TkX w p q v S c s) : ¬ Ta p q S w.heap.size := fun h => by
  rcases h with h | h | h
  · have := x.lt; omega
  · have := x.lap.lt; omega
  · have := x.ins.lt _ h; omega
theorem Mid.fin {w w1 w6 w7 : World} {p q : Nat} {v v6 : Value} {S S6 : Nat → Prop} {c : Cf} {s s6 s9 : Ts} (aw : After w w1) (hg : w.heap.size < w1.heap.size) (x : TkX w p q v S c s) (h : TkX w6 p q v6 S6 c s6 ∧ (∀ i, S6 i → S i ∨ w1.heap.size ≤ i) ∧ But (Ta p q S) w1 w6) (a7 : After w6 w7) (hs : s6 = s9) (y z : Value) :
    ∃ v' S', TkX ((w7.setCell ⟨w.heap.size, 0, none⟩ y).setCell ⟨w.heap.size, 1, none⟩ z) p q v' S' c s9 ∧ (∀ i, S' i → S i ∨ w.heap.size ≤ i) ∧ But (Ta p q S) w ((w7.setCell ⟨w.heap.size, 0, none⟩ y).setCell ⟨w.heap.size, 1, none⟩ z) := by
  obtain ⟨x6, hS, b6⟩ := h
  subst hs
  have b8 : But (One w.heap.size) w7 ((w7.setCell ⟨w.heap.size, 0, none⟩ y).setCell ⟨w.heap.size, 1, none⟩ z) := (but_one w7 _ 0 _).trans (but_one _ _ 1 _)
  have hn := x.not_in
  refine ⟨v6, S6, (x6.after a7).but b8 (fun e => hn (.inl e.symm)) (fun e => hn (.inr (.inl e.symm))) (fun i hi e => ?_), fun i hi => (hS i hi).imp id (fun h => Nat.le_trans aw.size h), ?_⟩
  · cases e
    rcases hS _ hi with h | h
    · exact hn (.inr (.inr h))
    · omega
  · exact ((aw.but.then b6 (fun _ _ e => e)).then a7 (fun _ _ e => e.elim)).then b8 (fun i hi e => by cases e; omega)
theorem Mid.anew {w1 w3 w4 : World} {p q : Nat} {v' : Value} {S S' : Nat → Prop} {c : Cf} {s : Ts} (b : But (Ta p q S) w1 w3) (h : TkX w4 p q v' S' c s.anew ∧ (∀ i, S' i → w3.heap.size ≤ i) ∧ But (One p) w3 w4) : Mid w1 p q S c s.anew w4 :=
  ⟨v', S', h.1, fun i hi => .inr (Nat.le_trans b.size (h.2.1 i hi)), b.then h.2.2 (fun _ _ e => .inl e)⟩
theorem Mid.hear {w1 w3 w4 : World} {p q : Nat} {v' : Value} {S S' : Nat → Prop} {c : Cf} {s : Ts} (hS : ∀ i, S' i → S i ∨ w1.heap.size ≤ i) (b : But (Ta p q S) w1 w3) (h : ∃ S'', TkX w4 p q v' S'' c s ∧ (∀ i, S'' i → S' i ∨ w3.heap.size ≤ i) ∧ But (Ta p q S') w3 w4) : Mid w1 p q S c s w4 := by
  obtain ⟨S'', x, h1, h2⟩ := h
  refine ⟨v', S'', x, fun i hi => ?_, b.then h2 (fun i hi e => ?_)⟩
  · rcases h1 i hi with h | h
    · exact hS i h
    · exact .inr (Nat.le_trans b.size h)
  · rcases e with e | e | e
    · exact .inl e
    · exact .inr (.inl e)
    · rcases hS i e with h | h
      · exact .inr (.inr h)
      · omega
set_option maxHeartbeats 1000000 in
theorem stepX_yes {w : World} {p q : Nat} {v : Value} {S : Nat → Prop} {c : Cf} {s : Ts} (x : TkX w p q v S c s) (t : Int) (a : Option Addr) (n d : Nat) (l : List Rl) (hr : RRow w a n l) (hna : ∀ y, a = some y → 0 < n → ¬ Ta p q S y.block) (he : s.err t l = 0) : Calls Tryz.prog 9 #[Ptr p, .int .i64 t, .slice a n d] w fun e w' => e = .returned (.tuple #[.agg #[.int .i64 (s.read c t l).s, .int .i64 (s.read c t l).v], .int .i64 0]) ∧ ∃ v' S', TkX w' p q v' S' c (s.step c t l) ∧ (∀ i, S' i → S i ∨ w.heap.size ≤ i) ∧ But (Ta p q S) w w' := by
  have H := hideIt (fun W (a1 : After w W) => check_any (x.after a1) t a n d l (hr.after a1))
  have hb := s.err_cases t l
  rw [he] at H hb
  have ht0 : 0 ≤ t := by have := x.lo; omega
  have ht1 : t ≤ 2147483647 := by omega
  have hln := hr.1
  have HL := hideIt hln
  have h64 : (n : Int) ≤ 64 := by omega
  have HX := hideIt (And.intro x (And.intro hr hna))
  obtain ⟨R, hR⟩ : ∃ R, s.read c t l = R := ⟨_, rfl⟩
  have HRD := hideIt hR
  obtain ⟨s9, hs9⟩ : ∃ s9, s.step c t l = s9 := ⟨_, rfl⟩
  have HST := hideIt hs9
  rw [hR, hs9]
  clear hR hs9 hr hna hb he x hln
  by_cases hA : s.at_ c t = 3
  · have hop : s.upto c t l 0 = (s.goes t).anew := by rw [Ts.upto_zero]; unfold Ts.opn; rw [if_pos hA]
    have HOP := hideIt hop
    have HST0 : Hid (∀ W v' S', TkX W p q v' S' c (s.goes t) → Calls Tryz.prog 17 #[Ptr p, .int .i64 t] W fun e w' => e = .returned (.int .i64 3) ∧ w' = W) := by
      intro W v' S' x
      have := state_any x t
      rw [show (s.goes t).at_ c t = s.at_ c t from rfl, hA] at this
      exact this
    clear hop hA
    go_enter Tryz.func9, Tryz.ntmps9
    go_wp2_with fail
    refine (H.out _ (After.rfl.alloc _)).mono ?_
    rintro e w1 ⟨rfl, a1⟩
    have hg := (a1.block w.heap.size (by simp) (fun t => t)).trans (heap_alloc_new w _)
    have aw := (After.rfl.alloc _).trans a1
    have x1 := HX.out.1.after aw
    have c7 := blk_cell x1.at0 (i := 7) rfl
    have s7 := blk_soft x1.at0 7
    have x2 := x1.goes_ ht0 ht1
    have HX2 := hideIt (And.intro x2 (But.mono (T := Ta p q S) (but_one w1 p 7 (.int .i64 (t + 1))) (fun _ _ e => .inl e)))
    have HG := hideIt (And.intro hg (And.intro aw HX.out.1.not_in))
    clear x1 x2 hg aw a1 H
    have i1 : wrap64 (t + 1) = t + 1 := by unfold wrap64; omega
    go_wp2_with fail
    refine (HST0.out _ _ _ HX2.out.1).mono ?_
    rintro e w3 ⟨rfl, rfl⟩
    clear c7 s7
    have HB := hideIt (anew_any HX2.out.1)
    go_wp2_with fail
    refine HB.out.mono ?_
    rintro e w3 ⟨rfl, v3, S3, hx3⟩
    have hm3 := Mid.anew HX2.out.2 hx3
    rw [← HOP.out] at hm3
    have HM := hideIt hm3
    clear hm3 hx3 HB HST0
    clear HX2
    go_wp2_with fail
    go_loopw [33] (fun i wr => ∃ j : Nat, j ≤ n ∧ i = .int .i64 j ∧ Mid w1 p q S c (s.upto c t l j) wr) (fun i _ => n - (intOf i).toNat)
    case atStart => exact ⟨0, Nat.zero_le _, rfl, HM.out⟩
    case round =>
      obtain ⟨j, hj, rfl, hm⟩ := hrel
      clear HM HOP
      by_cases hjn : j < n
      · have i2 : (j : Int) < (n : Int) := by omega
        obtain ⟨v3, S3, x3, hS3, b3⟩ := hm
        have rr := (HX.out.2.1.after HG.out.2.1).but b3 (fun y hy h0 => HX.out.2.2 y hy h0)
        obtain ⟨b, off, r, rfl, hbl, hx, k0, k1, k2⟩ := rr.at_ hjn
        have HM2 := hideIt (And.intro hx (And.intro hS3 b3))
        have HH := hideIt (hear_any (x3.after (After.rfl.alloc (.cells #[.int .i64 r.k, .int .i64 r.m, .int .i64 r.e] 42))) t r)
        clear rr x3 hS3 b3 hx
        go_wp2_with fail
        refine HH.out.mono ?_
        rintro e w4 ⟨rfl, h4⟩
        have hm4 := Mid.hear HM2.out.2.1 (HM2.out.2.2.alloc _) h4
        rw [← Ts.upto_succ c t s HM2.out.1] at hm4
        have HM4 := hideIt hm4
        clear hm4 h4 HH HM2 k0 k1 k2
        go_wp2_with fail
        go_roundw
        case rel => exact ⟨j + 1, by omega, by go_num, HM4.out⟩
        case measure => simp [intOf]; omega
      · have i2 : ¬ (j : Int) < (n : Int) := by omega
        have hjn' : j = n := by omega
        rw [hjn', ← HL.out, Ts.upto_all] at hm
        clear hjn'
        obtain ⟨v3, S3, x3, hS3, b3⟩ := hm
        have HQ := hideIt (state_any x3 t)
        have hng : ¬ Ta p q S w.heap.size := HG.out.2.2
        obtain ⟨A, hA⟩ : ∃ A, (s.hears c t l).at_ c t = A := ⟨_, rfl⟩
        rw [hA] at HQ
        have HRD2 : Hid (R = (s.step c t l).rd A) := by
          have := HRD.out
          unfold Ts.read at this
          rw [hA] at this
          exact this.symm
        have HRX : Hid (∀ W v' S', TkX W p q v' S' c (s.step c t l) → Calls Tryz.prog 20 #[Ptr p, .int .i64 A] W fun e w' => e = .returned (.agg #[.int .i64 R.s, .int .i64 R.v]) ∧ After W w') := by
          intro W v' S' x
          have := reading_any x A
          rw [← HRD2.out] at this
          exact this
        have HM3 := hideIt (And.intro x3 (And.intro hS3 (And.intro b3 hng)))
        have HAA := hideIt hA
        by_cases h34 : A = 3 ∨ A = 4
        · have hst : s.step c t l = (s.hears c t l).anew := by unfold Ts.step Ts.shut; rw [hA, if_pos h34]
          have HS5 := hideIt hst
          rcases h34 with rfl | rfl
          all_goals
            have HB := hideIt (anew_any x3)
            clear hst hA hng x3 hS3 b3 HAA
            go_wp2_with fail
            refine HQ.out.mono ?_
            rintro e w4 ⟨rfl, rfl⟩
            go_wp2_with fail
            refine HB.out.mono ?_
            rintro e w5 ⟨rfl, v5, S5, x5, hS5, b5⟩
            have hm5 := Mid.anew HM3.out.2.2.1 ⟨x5, hS5, b5⟩
            rw [← HS5.out] at hm5
            obtain ⟨v6, S6, x6, hS6, b6⟩ := hm5
            have HE := hideIt (HRX.out _ _ _ x6)
            have HM6 := hideIt (And.intro x6 (And.intro hS6 b6))
            clear x5 hS5 b5 x6 hS6 b6 HB HQ
            go_wp2_with fail
            refine HE.out.mono ?_
            rintro e w7 ⟨rfl, a7⟩
            obtain ⟨x6, hS6, b6⟩ := HM6.out
            have hg7 := (a7.block w.heap.size (Nat.lt_of_lt_of_le (blk_lt HG.out.1) b6.size) (fun t => t)).trans ((b6.block w.heap.size (blk_lt HG.out.1) HM3.out.2.2.2).trans HG.out.1)
            obtain ⟨_, e0, e1, e2, e3⟩ := two_at hg7
            have HG7 := hideIt (And.intro hg7 a7)
            clear hg7 a7 x6 hS6 b6 HE
            go_wp2_with fail
            obtain ⟨_, q0, q1, _, _⟩ := two_at (two_set1 (two_set0 HG7.out.1 (.int .i64 R.s)) (.int .i64 R.v))
            exact bodyPost_ret (v := .tuple #[.agg #[.int .i64 R.s, .int .i64 R.v], .int .i64 0]) (by simp [results, Tryz.results9, go_sem, q0, q1]) rfl ⟨rfl, Mid.fin HG.out.2.1 (blk_lt HG.out.1) HX.out.1 HM6.out HG7.out.2 HST.out _ _⟩
        · have hst : s.step c t l = s.hears c t l := by unfold Ts.step Ts.shut; rw [hA, if_neg h34]
          have n3 : (A == 3) = false := by simp; omega
          have n4 : (A == 4) = false := by simp; omega
          rw [← hst] at x3
          have HE := hideIt (HRX.out _ _ _ x3)
          have HM6 := hideIt (And.intro x3 (And.intro hS3 b3))
          clear hst hA hng x3 hS3 b3 h34 HAA
          go_wp2_with fail
          refine HQ.out.mono ?_
          rintro e w4 ⟨rfl, rfl⟩
          go_wp2_with fail
          refine HE.out.mono ?_
          rintro e w7 ⟨rfl, a7⟩
          obtain ⟨x6, hS6, b6⟩ := HM6.out
          have hg7 := (a7.block w.heap.size (Nat.lt_of_lt_of_le (blk_lt HG.out.1) b6.size) (fun t => t)).trans ((b6.block w.heap.size (blk_lt HG.out.1) HM3.out.2.2.2).trans HG.out.1)
          obtain ⟨_, e0, e1, e2, e3⟩ := two_at hg7
          have HG7 := hideIt (And.intro hg7 a7)
          clear hg7 a7 x6 hS6 b6 HE
          go_wp2_with fail
          obtain ⟨_, q0, q1, _, _⟩ := two_at (two_set1 (two_set0 HG7.out.1 (.int .i64 R.s)) (.int .i64 R.v))
          exact bodyPost_ret (v := .tuple #[.agg #[.int .i64 R.s, .int .i64 R.v], .int .i64 0]) (by simp [results, Tryz.results9, go_sem, q0, q1]) rfl ⟨rfl, Mid.fin HG.out.2.1 (blk_lt HG.out.1) HX.out.1 HM6.out HG7.out.2 HST.out _ _⟩
  · have hop : s.upto c t l 0 = s.goes t := by rw [Ts.upto_zero]; unfold Ts.opn; rw [if_neg hA]
    have HOP := hideIt hop
    obtain ⟨A0, hA0⟩ : ∃ A0, s.at_ c t = A0 := ⟨_, rfl⟩
    have HST0 : Hid (∀ W v' S', TkX W p q v' S' c (s.goes t) → Calls Tryz.prog 17 #[Ptr p, .int .i64 t] W fun e w' => e = .returned (.int .i64 A0) ∧ w' = W) := by
      intro W v' S' x
      have := state_any x t
      rw [show (s.goes t).at_ c t = s.at_ c t from rfl, hA0] at this
      exact this
    have nA : (A0 == 3) = false := by rw [← hA0]; simp [hA]
    clear hop hA hA0
    go_enter Tryz.func9, Tryz.ntmps9
    go_wp2_with fail
    refine (H.out _ (After.rfl.alloc _)).mono ?_
    rintro e w1 ⟨rfl, a1⟩
    have hg := (a1.block w.heap.size (by simp) (fun t => t)).trans (heap_alloc_new w _)
    have aw := (After.rfl.alloc _).trans a1
    have x1 := HX.out.1.after aw
    have c7 := blk_cell x1.at0 (i := 7) rfl
    have s7 := blk_soft x1.at0 7
    have x2 := x1.goes_ ht0 ht1
    have HX2 := hideIt (And.intro x2 (But.mono (T := Ta p q S) (but_one w1 p 7 (.int .i64 (t + 1))) (fun _ _ e => .inl e)))
    have HG := hideIt (And.intro hg (And.intro aw HX.out.1.not_in))
    clear x1 x2 hg aw a1 H
    have i1 : wrap64 (t + 1) = t + 1 := by unfold wrap64; omega
    go_wp2_with fail
    refine (HST0.out _ _ _ HX2.out.1).mono ?_
    rintro e w3 ⟨rfl, rfl⟩
    clear c7 s7
    have hm3 : Mid w1 p q S c (s.goes t) (w1.setCell ⟨p, 7, none⟩ (.int .i64 (t + 1))) := ⟨v, S, HX2.out.1, fun _ h => .inl h, HX2.out.2⟩
    rw [← HOP.out] at hm3
    have HM := hideIt hm3
    clear hm3 HST0
    clear HX2
    go_wp2_with fail
    go_loopw [33] (fun i wr => ∃ j : Nat, j ≤ n ∧ i = .int .i64 j ∧ Mid w1 p q S c (s.upto c t l j) wr) (fun i _ => n - (intOf i).toNat)
    case atStart => exact ⟨0, Nat.zero_le _, rfl, HM.out⟩
    case round =>
      obtain ⟨j, hj, rfl, hm⟩ := hrel
      clear HM HOP
      by_cases hjn : j < n
      · have i2 : (j : Int) < (n : Int) := by omega
        obtain ⟨v3, S3, x3, hS3, b3⟩ := hm
        have rr := (HX.out.2.1.after HG.out.2.1).but b3 (fun y hy h0 => HX.out.2.2 y hy h0)
        obtain ⟨b, off, r, rfl, hbl, hx, k0, k1, k2⟩ := rr.at_ hjn
        have HM2 := hideIt (And.intro hx (And.intro hS3 b3))
        have HH := hideIt (hear_any (x3.after (After.rfl.alloc (.cells #[.int .i64 r.k, .int .i64 r.m, .int .i64 r.e] 42))) t r)
        clear rr x3 hS3 b3 hx
        go_wp2_with fail
        refine HH.out.mono ?_
        rintro e w4 ⟨rfl, h4⟩
        have hm4 := Mid.hear HM2.out.2.1 (HM2.out.2.2.alloc _) h4
        rw [← Ts.upto_succ c t s HM2.out.1] at hm4
        have HM4 := hideIt hm4
        clear hm4 h4 HH HM2 k0 k1 k2
        go_wp2_with fail
        go_roundw
        case rel => exact ⟨j + 1, by omega, by go_num, HM4.out⟩
        case measure => simp [intOf]; omega
      · have i2 : ¬ (j : Int) < (n : Int) := by omega
        have hjn' : j = n := by omega
        rw [hjn', ← HL.out, Ts.upto_all] at hm
        clear hjn'
        obtain ⟨v3, S3, x3, hS3, b3⟩ := hm
        have HQ := hideIt (state_any x3 t)
        have hng : ¬ Ta p q S w.heap.size := HG.out.2.2
        obtain ⟨A, hA⟩ : ∃ A, (s.hears c t l).at_ c t = A := ⟨_, rfl⟩
        rw [hA] at HQ
        have HRD2 : Hid (R = (s.step c t l).rd A) := by
          have := HRD.out
          unfold Ts.read at this
          rw [hA] at this
          exact this.symm
        have HRX : Hid (∀ W v' S', TkX W p q v' S' c (s.step c t l) → Calls Tryz.prog 20 #[Ptr p, .int .i64 A] W fun e w' => e = .returned (.agg #[.int .i64 R.s, .int .i64 R.v]) ∧ After W w') := by
          intro W v' S' x
          have := reading_any x A
          rw [← HRD2.out] at this
          exact this
        have HM3 := hideIt (And.intro x3 (And.intro hS3 (And.intro b3 hng)))
        have HAA := hideIt hA
        by_cases h34 : A = 3 ∨ A = 4
        · have hst : s.step c t l = (s.hears c t l).anew := by unfold Ts.step Ts.shut; rw [hA, if_pos h34]
          have HS5 := hideIt hst
          rcases h34 with rfl | rfl
          all_goals
            have HB := hideIt (anew_any x3)
            clear hst hA hng x3 hS3 b3 HAA
            go_wp2_with fail
            refine HQ.out.mono ?_
            rintro e w4 ⟨rfl, rfl⟩
            go_wp2_with fail
            refine HB.out.mono ?_
            rintro e w5 ⟨rfl, v5, S5, x5, hS5, b5⟩
            have hm5 := Mid.anew HM3.out.2.2.1 ⟨x5, hS5, b5⟩
            rw [← HS5.out] at hm5
            obtain ⟨v6, S6, x6, hS6, b6⟩ := hm5
            have HE := hideIt (HRX.out _ _ _ x6)
            have HM6 := hideIt (And.intro x6 (And.intro hS6 b6))
            clear x5 hS5 b5 x6 hS6 b6 HB HQ
            go_wp2_with fail
            refine HE.out.mono ?_
            rintro e w7 ⟨rfl, a7⟩
            obtain ⟨x6, hS6, b6⟩ := HM6.out
            have hg7 := (a7.block w.heap.size (Nat.lt_of_lt_of_le (blk_lt HG.out.1) b6.size) (fun t => t)).trans ((b6.block w.heap.size (blk_lt HG.out.1) HM3.out.2.2.2).trans HG.out.1)
            obtain ⟨_, e0, e1, e2, e3⟩ := two_at hg7
            have HG7 := hideIt (And.intro hg7 a7)
            clear hg7 a7 x6 hS6 b6 HE
            go_wp2_with fail
            obtain ⟨_, q0, q1, _, _⟩ := two_at (two_set1 (two_set0 HG7.out.1 (.int .i64 R.s)) (.int .i64 R.v))
            exact bodyPost_ret (v := .tuple #[.agg #[.int .i64 R.s, .int .i64 R.v], .int .i64 0]) (by simp [results, Tryz.results9, go_sem, q0, q1]) rfl ⟨rfl, Mid.fin HG.out.2.1 (blk_lt HG.out.1) HX.out.1 HM6.out HG7.out.2 HST.out _ _⟩
        · have hst : s.step c t l = s.hears c t l := by unfold Ts.step Ts.shut; rw [hA, if_neg h34]
          have n3 : (A == 3) = false := by simp; omega
          have n4 : (A == 4) = false := by simp; omega
          rw [← hst] at x3
          have HE := hideIt (HRX.out _ _ _ x3)
          have HM6 := hideIt (And.intro x3 (And.intro hS3 b3))
          clear hst hA hng x3 hS3 b3 h34 HAA
          go_wp2_with fail
          refine HQ.out.mono ?_
          rintro e w4 ⟨rfl, rfl⟩
          go_wp2_with fail
          refine HE.out.mono ?_
          rintro e w7 ⟨rfl, a7⟩
          obtain ⟨x6, hS6, b6⟩ := HM6.out
          have hg7 := (a7.block w.heap.size (Nat.lt_of_lt_of_le (blk_lt HG.out.1) b6.size) (fun t => t)).trans ((b6.block w.heap.size (blk_lt HG.out.1) HM3.out.2.2.2).trans HG.out.1)
          obtain ⟨_, e0, e1, e2, e3⟩ := two_at hg7
          have HG7 := hideIt (And.intro hg7 a7)
          clear hg7 a7 x6 hS6 b6 HE
          go_wp2_with fail
          obtain ⟨_, q0, q1, _, _⟩ := two_at (two_set1 (two_set0 HG7.out.1 (.int .i64 R.s)) (.int .i64 R.v))
          exact bodyPost_ret (v := .tuple #[.agg #[.int .i64 R.s, .int .i64 R.v], .int .i64 0]) (by simp [results, Tryz.results9, go_sem, q0, q1]) rfl ⟨rfl, Mid.fin HG.out.2.1 (blk_lt HG.out.1) HX.out.1 HM6.out HG7.out.2 HST.out _ _⟩
end Go.Proofs.YtgapnimicaopcaaGreat
/-
  New and Check; rows of reals of one's own; copied; a step of a task, whatever is asked.
-/
namespace Go.Proofs.YtgapnimicaopcaaGreat
open Go.RowKit
set_option maxRecDepth 8000
/-- A filter, by value. -/
abbrev fVal (k n st : Int) : Value := .agg #[.int .i64 k, .int .i64 n, .int .i64 st]
def MayF (k n st : Int) : Prop := MayK k n ∧ L13.May st
theorem Cf.Ok.mayF {c : Cf} (h : c.Ok) : MayF c.k c.n c.st := ⟨h.mayK, by unfold L13.May; have := h.st1; have := h.st2; omega⟩
theorem MayF.cf {k n st : Int} (h : MayF k n st) : ∃ c : Cf, c.Ok ∧ k = c.k ∧ n = c.n ∧ st = c.st := by
  obtain ⟨h1, h2⟩ := h
  unfold MayK L9.May L10.May L11.May L12.May at h1
  unfold L13.May at h2
  refine ⟨⟨k.toNat, n.toNat, st.toNat⟩, ⟨?_, ?_, ?_⟩, ?_, ?_, ?_⟩
  · show k.toNat = 0 ∧ n.toNat = 0 ∨ k.toNat = 1 ∧ 1 ≤ n.toNat ∧ n.toNat ≤ 15 ∧ n.toNat % 2 = 1 ∨ k.toNat = 2 ∧ 1 ≤ n.toNat ∧ n.toNat ≤ 15 ∨ k.toNat = 3 ∧ 1 ≤ n.toNat ∧ n.toNat ≤ 1000 ∨ k.toNat = 4 ∧ 2 ≤ n.toNat ∧ n.toNat ≤ 8
    omega
  · show 1 ≤ st.toNat
    omega
  · show st.toNat ≤ 10000
    omega
  · show k = (k.toNat : Int)
    omega
  · show n = (n.toNat : Int)
    omega
  · show st = (st.toNat : Int)
    omega
theorem filterNew_ok (w : World) (c : Cf) (h : c.Ok) : Calls Tryz.prog 4 #[fVal c.k c.n c.st] w fun e w' => ∃ p S, e = .returned (.tuple #[Ptr p, .int .i64 0]) ∧ Tk w' p S c Ts.new ∧ (∀ i, S i → w.heap.size ≤ i) ∧ After w w' := by
  have H := hideIt (fun W => insideOf_ok W c.k c.n c.st h.mayK)
  have HL := hideIt (fun W => L13.lpNew_ok W c.st h.mayF.2)
  have HO := hideIt h
  clear h
  go_enter Tryz.func4, Tryz.ntmps4
  go_wp2_with fail
  refine (H.out _).mono ?_
  rintro e w1 ⟨v, S, rfl, hi, hS, a1⟩
  obtain ⟨T, u, rfl⟩ := hi.iface
  have k0 := a1.cell (g := w.heap.size) (by simp) 0
  have k1 := a1.cell (g := w.heap.size) (by simp) 1
  have k2 := a1.cell (g := w.heap.size) (by simp) 2
  have HI := hideIt (And.intro hi (And.intro hS a1))
  have hlt : w.heap.size < w1.heap.size := Nat.lt_of_lt_of_le (by simp) a1.size
  clear hi hS a1
  go_wp2_with fail
  refine (HL.out _).mono ?_
  rintro e w2 ⟨rfl, rfl⟩
  go_wp2_with fail
  go_ret2
  obtain ⟨hi, hS, a1⟩ := HI.out
  generalize hW2 : w1.alloc (.cells #[.int .i64 (c.st : Int), .bool false, .bool false, .int .i64 0] 93) = w2
  have hs2 : w2.heap.size = w1.heap.size + 1 := by rw [← hW2]; simp
  have hl2 : w2.heap[w1.heap.size]? = some (.cells #[.int .i64 (c.st : Int), .bool false, .bool false, .int .i64 0] 93 (0, 0)) := by rw [← hW2]; exact heap_alloc_new w1 _
  have a2 : After w1 w2 := by rw [← hW2]; exact After.rfl.alloc _
  rw [← hs2]
  have hx : TkX (w2.alloc (.cells #[.int .i64 c.k, .int .i64 c.n, .int .i64 c.st, .iface T u, Ptr w1.heap.size, .int .i64 0, .bool false, .int .i64 0] 53)) w2.heap.size w1.heap.size (.iface T u) S c Ts.new :=
    { at0 := heap_alloc_new w2 _, lap := (L13.lp_new hl2 HO.out.st1 HO.out.st2).after (After.rfl.alloc _), ins := (hi.after a2).after (After.rfl.alloc _), ok := HO.out, ne := by omega, np := fun h => by have := hi.lt _ h; omega, nq := fun h => by have := hi.lt _ h; omega, lo := Int.le_refl _, hi := by decide }
  refine ⟨w2.heap.size, Ta w2.heap.size w1.heap.size S, rfl, ⟨_, _, S, hx, fun i => Iff.rfl⟩, fun i hi => ?_, (((After.rfl.alloc _).trans a1).trans a2).alloc _⟩
  have hS' : ∀ i, S i → w.heap.size ≤ i := fun i h => by have := hS i h; simp at this; omega
  rcases hi with rfl | rfl | h
  · omega
  · omega
  · exact hS' i h
theorem filterNew_no (w : World) (k n st : Int) (h : ¬ MayF k n st) : Calls Tryz.prog 4 #[fVal k n st] w fun e w' => e = .returned (.tuple #[.pointer none, .int .i64 2]) ∧ After w w' := by
  by_cases hk : MayK k n
  · have hs : ¬ L13.May st := fun h2 => h ⟨hk, h2⟩
    obtain ⟨kk, nn, rfl, rfl⟩ : ∃ kk nn : Nat, k = kk ∧ n = nn := by
      unfold MayK L9.May L10.May L11.May L12.May at hk
      exact ⟨k.toNat, n.toNat, by omega, by omega⟩
    have H := hideIt (fun W => insideOf_ok W kk nn st hk)
    have HL := hideIt (fun W => L13.lpNew_no W st hs)
    clear h hk hs
    go_enter Tryz.func4, Tryz.ntmps4
    go_wp2_with fail
    refine (H.out _).mono ?_
    rintro e w1 ⟨v, S, rfl, hi, hS, a1⟩
    obtain ⟨T, u, rfl⟩ := hi.iface
    have k2 := a1.cell (g := w.heap.size) (by simp) 2
    have HI := hideIt a1
    have hlt : w.heap.size < w1.heap.size := Nat.lt_of_lt_of_le (by simp) a1.size
    clear hi hS a1
    go_wp2_with fail
    refine (HL.out _).mono ?_
    rintro e w2 ⟨rfl, rfl⟩
    go_wp2_with fail
    go_ret2
    exact ⟨rfl, (After.rfl.alloc _).trans HI.out⟩
  · have H := hideIt (fun W => insideOf_no W k n st hk)
    clear h hk
    go_enter Tryz.func4, Tryz.ntmps4
    go_wp2_with fail
    refine (H.out _).mono ?_
    rintro e w1 ⟨⟨v, rfl⟩, a1⟩
    go_wp2_with fail
    go_ret2
    exact ⟨rfl, (After.rfl.alloc _).trans a1⟩
theorem check_ok (w : World) (c : Cf) (h : c.Ok) : Calls Tryz.prog 6 #[fVal c.k c.n c.st] w fun e w' => e = .returned (.int .i64 0) ∧ After w w' := by
  have H := hideIt (fun W => filterNew_ok W c h)
  clear h
  go_enter Tryz.func6, Tryz.ntmps6
  go_wp2_with (go_at_call 4; refine (H.out _).mono ?_; rintro e w1 ⟨p, S, rfl, _, _, a1⟩)
  go_ret
  exact ⟨rfl, (After.rfl.alloc _).trans a1⟩
theorem check_no (w : World) (k n st : Int) (h : ¬ MayF k n st) : Calls Tryz.prog 6 #[fVal k n st] w fun e w' => e = .returned (.int .i64 2) ∧ After w w' := by
  have H := hideIt (fun W => filterNew_no W k n st h)
  clear h
  go_enter Tryz.func6, Tryz.ntmps6
  go_wp2_with (go_at_call 4; refine (H.out _).mono ?_; rintro e w1 ⟨rfl, a1⟩)
  go_ret
  exact ⟨rfl, (After.rfl.alloc _).trans a1⟩
/-- What a task is behind a step that is asked for, and what is answered. -/
def Ts.go (c : Cf) (t : Int) (s : Ts) (l : List Rl) : Ts := if s.err t l = 0 then s.step c t l else s
def Ts.out (c : Cf) (t : Int) (s : Ts) (l : List Rl) : Rd := if s.err t l = 0 then s.read c t l else ⟨0, 0⟩
theorem step_any {w : World} {p : Nat} {S : Nat → Prop} {c : Cf} {s : Ts} (x : Tk w p S c s) (t : Int) (a : Option Addr) (n d : Nat) (l : List Rl) (hr : RRow w a n l) (hna : ∀ y, a = some y → 0 < n → ¬ S y.block) : Calls Tryz.prog 9 #[Ptr p, .int .i64 t, .slice a n d] w fun e w' => e = .returned (.tuple #[.agg #[.int .i64 (s.out c t l).s, .int .i64 (s.out c t l).v], .int .i64 (s.err t l)]) ∧ ∃ S', Tk w' p S' c (s.go c t l) ∧ (∀ i, S' i → S i ∨ w.heap.size ≤ i) ∧ But S w w' := by
  obtain ⟨q, v, S1, x, hs⟩ := x
  unfold Ts.out Ts.go
  by_cases he : s.err t l = 0
  · rw [if_pos he, if_pos he, he]
    refine (stepX_yes x t a n d l hr (fun y hy h0 h => hna y hy h0 ((hs _).2 h)) he).mono ?_
    rintro e w' ⟨rfl, v', S', x', h1, h2⟩
    refine ⟨rfl, Ta p q S', ⟨q, v', S', x', fun i => Iff.rfl⟩, fun i hi => ?_, h2.mono (fun i _ h => (hs i).2 h)⟩
    rcases hi with rfl | rfl | h
    · exact .inl ((hs _).2 (.inl rfl))
    · exact .inl ((hs _).2 (.inr (.inl rfl)))
    · exact (h1 i h).imp (fun h => (hs i).2 (.inr (.inr h))) id
  · rw [if_neg he, if_neg he]
    refine (stepX_no x t a n d l hr he).mono ?_
    rintro e w' ⟨rfl, ha⟩
    exact ⟨rfl, S, ⟨q, v, S1, x.after ha, hs⟩, fun i h => .inl h, ha.but⟩
end Go.Proofs.YtgapnimicaopcaaGreat
