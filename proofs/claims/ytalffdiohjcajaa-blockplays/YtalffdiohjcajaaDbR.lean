/-
  The document's device in memory; what it reads, whether the power goes, Arm, Crash, Dead, Sectors.
-/
import Derived.Test.YtalffdiohjcajaaDbQ
import Derived.Lib.MinMax
namespace Go.Proofs.Ytalffdiohjcajaa
open Go.RowKit
set_option maxRecDepth 8000
/-- A row of slices, each of which leads to 64 bytes that nobody stores into. -/
def SlRow (w : World) (S : Nat → Prop) (g n : Nat) (f : Nat → List Int) : Prop :=
  ∃ cs : Array Value, w.heap[g]? = some (.cells cs 38 (0, 0)) ∧ n ≤ cs.size ∧ ∀ i, i < n → ∃ b c, cs[i]? = some (.slice (some ⟨b, 0, none⟩) 64 c) ∧ Row w (some ⟨b, 0, none⟩) 64 (f i) ∧ ¬ S b
theorem SlRow.lt {w : World} {S : Nat → Prop} {g n : Nat} {f : Nat → List Int} (h : SlRow w S g n f) : g < w.heap.size := by
  obtain ⟨cs, h, _⟩ := h
  exact blk_lt h
theorem row_lt {w : World} {b off n : Nat} {zs : List Int} (h : Row w (some ⟨b, off, none⟩) n zs) (hn : 0 < n) : b < w.heap.size := by
  obtain ⟨b', off', e, hb, _⟩ := h.2.2 0 hn
  cases e
  exact hb
theorem SlRow.but {S T : Nat → Prop} {w w' : World} {g n : Nat} {f : Nat → List Int} (h : SlRow w S g n f) (x : But T w w') (hg : ¬ T g) (hT : ∀ k, k < w.heap.size → T k → S k) : SlRow w' S g n f := by
  obtain ⟨cs, h, h1, h2⟩ := h
  refine ⟨cs, (x.block g (blk_lt h) hg).trans h, h1, fun i hi => ?_⟩
  obtain ⟨b, c, q1, q2, q3⟩ := h2 i hi
  exact ⟨b, c, q1, q2.but x (fun y hy t => by cases hy; exact q3 (hT _ (row_lt q2 (by omega)) t)), q3⟩
theorem SlRow.widen {S S' : Nat → Prop} {w : World} {g n : Nat} {f : Nat → List Int} (h : SlRow w S g n f) (hS : ∀ k, k < w.heap.size → S' k → S k) : SlRow w S' g n f := by
  obtain ⟨cs, h, h1, h2⟩ := h
  refine ⟨cs, h, h1, fun i hi => ?_⟩
  obtain ⟨b, c, q1, q2, q3⟩ := h2 i hi
  exact ⟨b, c, q1, q2, fun t => q3 (hS _ (row_lt q2 (by omega)) t)⟩
theorem SlRow.congr {S : Nat → Prop} {w : World} {g n : Nat} {f f' : Nat → List Int} (h : SlRow w S g n f) (e : ∀ i, i < n → f i = f' i) : SlRow w S g n f' := by
  obtain ⟨cs, h, h1, h2⟩ := h
  exact ⟨cs, h, h1, fun i hi => by rw [← e i hi]; exact h2 i hi⟩
theorem SlRow.cell {S : Nat → Prop} {w : World} {g n : Nat} {f : Nat → List Int} (h : SlRow w S g n f) {i : Nat} (hi : i < n) : ∃ b c, w.cell? ⟨g, i, none⟩ = some (.slice (some ⟨b, 0, none⟩) 64 c) ∧ Row w (some ⟨b, 0, none⟩) 64 (f i) ∧ ¬ S b := by
  obtain ⟨cs, h, h1, h2⟩ := h
  obtain ⟨b, c, q1, q2, q3⟩ := h2 i hi
  exact ⟨b, c, blk_cell h q1, q2, q3⟩
theorem SlRow.soft {S : Nat → Prop} {w : World} {g n : Nat} {f : Nat → List Int} (h : SlRow w S g n f) (i : Nat) : w.frozen? ⟨g, i, none⟩ = false := by
  obtain ⟨cs, h, _⟩ := h
  exact blk_soft h i
/-- A slice is written over. -/
theorem SlRow.put {S : Nat → Prop} {w : World} {g n : Nat} {f : Nat → List Int} (h : SlRow w S g n f) (hg : S g) {i b c : Nat} {zs : List Int} (hi : i < n) (hr : Row w (some ⟨b, 0, none⟩) 64 zs) (hb : ¬ S b) : SlRow (w.setCell ⟨g, i, none⟩ (.slice (some ⟨b, 0, none⟩) 64 c)) S g n (fun k => if k = i then zs else f k) := by
  obtain ⟨cs, h, h1, h2⟩ := h
  have x := but_one w g i (.slice (some ⟨b, 0, none⟩) 64 c)
  refine ⟨_, blk_put h i _, by simp [h1], fun k hk => ?_⟩
  show ∃ b' c', _ ∧ Row _ _ 64 (if k = i then zs else f k) ∧ _
  by_cases e : k = i
  · subst e
    rw [if_pos rfl]
    exact ⟨b, c, set_at (by omega) _, hr.but x (fun y hy t => by cases hy; have t : b = g := t; exact hb (by rw [t]; exact hg)), hb⟩
  · rw [if_neg e]
    obtain ⟨b', c', q1, q2, q3⟩ := h2 k hk
    exact ⟨b', c', by rw [set_off (fun h => e h.symm)]; exact q1, q2.but x (fun y hy t => by cases hy; have t : b' = g := t; exact q3 (by rw [t]; exact hg)), q3⟩
/-- Bools in a row. -/
def BRow (w : World) (g n : Nat) (f : Nat → Bool) : Prop := ∃ cs : Array Value, w.heap[g]? = some (.cells cs 4 (0, 0)) ∧ n ≤ cs.size ∧ ∀ i, i < n → cs[i]? = some (.bool (f i))
theorem BRow.lt {w : World} {g n : Nat} {f : Nat → Bool} (h : BRow w g n f) : g < w.heap.size := by
  obtain ⟨cs, h, _⟩ := h
  exact blk_lt h
theorem BRow.but {T : Nat → Prop} {w w' : World} {g n : Nat} {f : Nat → Bool} (h : BRow w g n f) (x : But T w w') (hg : ¬ T g) : BRow w' g n f := by
  obtain ⟨cs, h, r⟩ := h
  exact ⟨cs, (x.block g (blk_lt h) hg).trans h, r⟩
theorem BRow.cell {w : World} {g n : Nat} {f : Nat → Bool} (h : BRow w g n f) {i : Nat} (hi : i < n) : w.cell? ⟨g, i, none⟩ = some (.bool (f i)) := by
  obtain ⟨cs, h, _, h2⟩ := h
  exact blk_cell h (h2 i hi)
theorem BRow.soft {w : World} {g n : Nat} {f : Nat → Bool} (h : BRow w g n f) (i : Nat) : w.frozen? ⟨g, i, none⟩ = false := by
  obtain ⟨cs, h, _⟩ := h
  exact blk_soft h i
theorem BRow.put {w : World} {g n : Nat} {f : Nat → Bool} (h : BRow w g n f) {i : Nat} (hi : i < n) (q : Bool) : BRow (w.setCell ⟨g, i, none⟩ (.bool q)) g n (fun k => if k = i then q else f k) := by
  obtain ⟨cs, h, h1, h2⟩ := h
  refine ⟨_, blk_put h i _, by simp [h1], fun k hk => ?_⟩
  show _ = some (Value.bool (if k = i then q else f k))
  by_cases e : k = i
  · subst e
    rw [if_pos rfl, set_at (by omega)]
  · rw [if_neg e, set_off (fun h => e h.symm)]
    exact h2 k hk
theorem BRow.congr {w : World} {g n : Nat} {f f' : Nat → Bool} (h : BRow w g n f) (e : ∀ i, i < n → f i = f' i) : BRow w g n f' := by
  obtain ⟨cs, h, h1, h2⟩ := h
  exact ⟨cs, h, h1, fun i hi => by rw [← e i hi]; exact h2 i hi⟩
/-- Where the document's device lies: the device, what is kept, what was written last, which were touched; the rows' room. -/
structure Pl where
  e : Nat
  k : Nat
  l : Nat
  t : Nat
  ck : Nat
  cl : Nat
abbrev rvC (p : Pl) (n : Nat) (q : Bool) (L : Int) : Array Value := #[.slice (some ⟨p.k, 0, none⟩) n p.ck, .slice (some ⟨p.l, 0, none⟩) n p.cl, .slice (some ⟨p.t, 0, none⟩) n n, .bool q, .int .i64 L]
/-- Its own blocks. -/
def Pl.In (p : Pl) : Nat → Prop := fun x => x = p.e ∨ x = p.k ∨ x = p.l ∨ x = p.t
structure RvX (w : World) (S : Nat → Prop) (p : Pl) (x : Dv) : Prop where
  ok : x.Ok
  at0 : w.heap[p.e]? = some (.cells (rvC p x.n x.dead x.left) 60 (0, 0))
  rk : SlRow w S p.k x.n x.kp
  rl : SlRow w S p.l x.n x.last
  rt : BRow w p.t x.n (fun i => (x.wr i).isSome)
  inS : ∀ b, p.In b → S b
  bd : ∀ b, S b → b < w.heap.size
  ek : p.e ≠ p.k
  el : p.e ≠ p.l
  et : p.e ≠ p.t
  kl : p.k ≠ p.l
  kt : p.k ≠ p.t
  lt : p.l ≠ p.t
theorem RvX.but {S T : Nat → Prop} {w w' : World} {p : Pl} {x : Dv} (h : RvX w S p x) (b : But T w w') (hn : ∀ k, p.In k → ¬ T k) (hT : ∀ k, k < w.heap.size → T k → S k) : RvX w' S p x :=
  { h with
    at0 := (b.block p.e (blk_lt h.at0) (hn _ (.inl rfl))).trans h.at0
    rk := h.rk.but b (hn _ (.inr (.inl rfl))) hT
    rl := h.rl.but b (hn _ (.inr (.inr (.inl rfl)))) hT
    rt := h.rt.but b (hn _ (.inr (.inr (.inr rfl))))
    bd := fun k hk => Nat.lt_of_lt_of_le (h.bd k hk) b.size }
theorem RvX.after {S : Nat → Prop} {w w' : World} {p : Pl} {x : Dv} (h : RvX w S p x) (a : After w w') : RvX w' S p x := h.but a (fun _ _ t => t) (fun _ _ t => t.elim)
theorem RvX.widen {S S' : Nat → Prop} {w : World} {p : Pl} {x : Dv} (h : RvX w S p x) (hS : ∀ k, k < w.heap.size → S' k → S k) (hI : ∀ b, p.In b → S' b) (hb : ∀ b, S' b → b < w.heap.size) : RvX w S' p x :=
  { h with rk := h.rk.widen hS, rl := h.rl.widen hS, inS := hI, bd := hb }
theorem RvX.c {S : Nat → Prop} {w : World} {p : Pl} {x : Dv} (h : RvX w S p x) : w.cell? ⟨p.e, 0, none⟩ = some (.slice (some ⟨p.k, 0, none⟩) x.n p.ck) ∧ w.cell? ⟨p.e, 1, none⟩ = some (.slice (some ⟨p.l, 0, none⟩) x.n p.cl) ∧ w.cell? ⟨p.e, 2, none⟩ = some (.slice (some ⟨p.t, 0, none⟩) x.n x.n) ∧ w.cell? ⟨p.e, 3, none⟩ = some (.bool x.dead) ∧ w.cell? ⟨p.e, 4, none⟩ = some (.int .i64 x.left) :=
  ⟨blk_cell h.at0 (i := 0) rfl, blk_cell h.at0 (i := 1) rfl, blk_cell h.at0 (i := 2) rfl, blk_cell h.at0 (i := 3) rfl, blk_cell h.at0 (i := 4) rfl⟩
theorem one_sub {S : Nat → Prop} {w : World} {p : Pl} {x : Dv} (h : RvX w S p x) {g : Nat} (hg : p.In g) : ∀ k, k < w.heap.size → One g k → S k := fun k _ e => by
  have e : k = g := e
  rw [e]
  exact h.inS g hg
theorem RvX.setL {S : Nat → Prop} {w : World} {p : Pl} {x : Dv} (h : RvX w S p x) {L : Int} (h0 : -1 ≤ L) (h1 : L ≤ 9223372036854775807) : RvX (w.setCell ⟨p.e, 4, none⟩ (.int .i64 L)) S p { x with left := L } := by
  have hb := but_one w p.e 4 (.int .i64 L)
  have hs := one_sub h (g := p.e) (.inl rfl)
  exact ⟨⟨h.ok.n0, h.ok.n1, h.ok.k, h.ok.w, h0, h1⟩, by rw [blk_put h.at0]; rfl, h.rk.but hb (fun e => h.ek e.symm) hs, h.rl.but hb (fun e => h.el e.symm) hs, h.rt.but hb (fun e => h.et e.symm), h.inS, fun k hk => Nat.lt_of_lt_of_le (h.bd k hk) hb.size, h.ek, h.el, h.et, h.kl, h.kt, h.lt⟩
theorem RvX.setQ {S : Nat → Prop} {w : World} {p : Pl} {x : Dv} (h : RvX w S p x) (q : Bool) : RvX (w.setCell ⟨p.e, 3, none⟩ (.bool q)) S p { x with dead := q } := by
  have hb := but_one w p.e 3 (.bool q)
  have hs := one_sub h (g := p.e) (.inl rfl)
  exact ⟨⟨h.ok.n0, h.ok.n1, h.ok.k, h.ok.w, h.ok.l0, h.ok.l1⟩, by rw [blk_put h.at0]; rfl, h.rk.but hb (fun e => h.ek e.symm) hs, h.rl.but hb (fun e => h.el e.symm) hs, h.rt.but hb (fun e => h.et e.symm), h.inS, fun k hk => Nat.lt_of_lt_of_le (h.bd k hk) hb.size, h.ek, h.el, h.et, h.kl, h.kt, h.lt⟩
theorem rvDead {S : Nat → Prop} {w : World} {p : Pl} {x : Dv} (h : RvX w S p x) : Calls Try.prog 31 #[Ptr p.e] w fun e w' => e = .returned (.bool x.dead) ∧ w' = w := by
  have c := h.c.2.2.2.1
  clear h
  generalize p.e = g at *
  go_enter Try.func31, Try.ntmps31
  go_wp2
  go_ret
  exact ⟨rfl, rfl⟩
theorem rvSectors {S : Nat → Prop} {w : World} {p : Pl} {x : Dv} (h : RvX w S p x) : Calls Try.prog 32 #[Ptr p.e] w fun e w' => e = .returned (.int .i64 (x.n : Nat)) ∧ w' = w := by
  have c := h.c.2.1
  clear h
  generalize p.e = g at *
  go_enter Try.func32, Try.ntmps32
  go_wp2
  go_ret
  exact ⟨rfl, rfl⟩
theorem rvArm {S : Nat → Prop} {w : World} {p : Pl} {x : Dv} (h : RvX w S p x) (n : Int) (_h0 : -9223372036854775808 ≤ n) (h1 : n ≤ 9223372036854775807) : Calls Try.prog 27 #[Ptr p.e, .int .i64 n] w fun e w' => e = .returned (.int .i64 x.chk) ∧ RvX w' S p (x.armS n) ∧ But (One p.e) w w' := by
  have c := h.c.2.2.2.1
  have c4 := h.c.2.2.2.2
  have f := blk_soft h.at0 4
  have H := hideIt h
  clear h
  cases hd : x.dead with
  | true =>
    have hc : x.chk = 220 := by unfold Dv.chk; rw [hd]; rfl
    have hs : x.armS n = x := by unfold Dv.armS; rw [hd]; rfl
    rw [hc, hs]
    rw [hd] at c
    clear hc hs hd
    generalize hg : p.e = g at *
    go_enter Try.func27, Try.ntmps27
    go_wp2
    go_ret
    exact ⟨rfl, H.out, But.rfl⟩
  | false =>
    have hc : x.chk = 0 := by unfold Dv.chk; rw [hd]; rfl
    rw [hc]
    rw [hd] at c
    have HS := hideIt (show x.armS n = { x with left := max n (-1) } by
      unfold Dv.armS
      rw [hd, if_neg (by decide)]
      congr 1
      rw [Int.max_def]
      split <;> split <;> omega)
    have HM := hideIt (show -1 ≤ max n (-1) ∧ max n (-1) ≤ 9223372036854775807 by omega)
    clear hc hd
    go_enter Try.func27, Try.ntmps27
    go_wp2
    go_ret
    exact ⟨rfl, HS.out ▸ H.out.setL HM.out.1 HM.out.2, but_one _ _ _ _⟩
theorem rvCrash {S : Nat → Prop} {w : World} {p : Pl} {x : Dv} (h : RvX w S p x) : Calls Try.prog 28 #[Ptr p.e] w fun e w' => e = .returned (.int .i64 x.chk) ∧ RvX w' S p x.die ∧ But (One p.e) w w' := by
  have c := h.c.2.2.2.1
  have f := blk_soft h.at0 3
  have H := hideIt h
  clear h
  cases hd : x.dead with
  | true =>
    have hc : x.chk = 220 := by unfold Dv.chk; rw [hd]; rfl
    have HS := hideIt (show x.die = x by unfold Dv.die; rw [← hd])
    rw [hc]
    rw [hd] at c
    clear hc hd f
    go_enter Try.func28, Try.ntmps28
    go_wp2
    go_ret
    exact ⟨rfl, by rw [HS.out]; exact H.out, But.rfl⟩
  | false =>
    have hc : x.chk = 0 := by unfold Dv.chk; rw [hd]; rfl
    rw [hc]
    rw [hd] at c
    clear hc hd
    go_enter Try.func28, Try.ntmps28
    go_wp2
    go_ret
    exact ⟨rfl, H.out.setQ true, but_one _ _ _ _⟩
/-- Does the power go? -/
theorem rvGoes {S : Nat → Prop} {w : World} {p : Pl} {x : Dv} (h : RvX w S p x) : Calls Try.prog 42 #[Ptr p.e] w fun e w' => e = .returned (.bool (decide (x.left = 0))) ∧ RvX w' S p x.go ∧ But (One p.e) w w' := by
  have c4 := h.c.2.2.2.2
  have c3 := h.c.2.2.2.1
  have f3 := blk_soft h.at0 3
  have f4 := blk_soft h.at0 4
  have hl0 := h.ok.l0
  have hl1 := h.ok.l1
  have H := hideIt h
  clear h
  by_cases e0 : x.left = 0
  · have HG := hideIt (show x.go = { x with dead := true } by unfold Dv.go; rw [if_pos e0])
    rw [show decide (x.left = 0) = true from decide_eq_true e0]
    rw [e0] at c4
    clear e0 hl0 hl1
    go_enter Try.func42, Try.ntmps42
    go_wp2
    go_ret
    exact ⟨rfl, by rw [HG.out]; exact H.out.setQ true, but_one _ _ _ _⟩
  · rw [show decide (x.left = 0) = false from decide_eq_false e0]
    have e2 : (x.left == 0) = false := by simpa using e0
    by_cases e1 : 0 < x.left
    · have HG := hideIt (show x.go = { x with left := x.left - 1 } by unfold Dv.go; rw [if_neg e0, if_pos e1])
      have hw : IntKind.i64.wrap (x.left - 1) = x.left - 1 := by rw [IntKind.wrap_i64]; omega
      have HB := hideIt (show -1 ≤ x.left - 1 ∧ x.left - 1 ≤ 9223372036854775807 by omega)
      clear e0 hl0 hl1
      go_enter Try.func42, Try.ntmps42
      go_wp2
      go_ret
      exact ⟨rfl, by rw [HG.out]; exact H.out.setL HB.out.1 HB.out.2, but_one _ _ _ _⟩
    · have HG := hideIt (show x.go = x by unfold Dv.go; rw [if_neg e0, if_neg e1])
      clear e0 hl0 hl1
      go_enter Try.func42, Try.ntmps42
      go_wp2
      go_ret
      exact ⟨rfl, by rw [HG.out]; exact H.out, But.rfl⟩
/-- What is answered of a sector by the document. -/
def AnsR (w : World) (B : Nat) (v : Value) (b : List Int) : Prop := (v = .slice none 0 0 ∧ b = []) ∨ ∃ q c, v = .slice (some ⟨q, 0, none⟩) 64 c ∧ Row w (some ⟨q, 0, none⟩) 64 b ∧ B ≤ q
theorem rvRead {S : Nat → Prop} {w : World} {p : Pl} {x : Dv} (h : RvX w S p x) (i : Int) : Calls Try.prog 23 #[Ptr p.e, .int .i64 i] w fun e w' => ∃ v, e = .returned (.tuple #[v, .int .i64 (x.readE i)]) ∧ AnsR w' w.heap.size v (x.readB i) ∧ After w w' := by
  have c1 := h.c.2.1
  have c3 := h.c.2.2.2.1
  cases hd : x.dead with
  | true =>
    have he : x.readE i = 220 := by unfold Dv.readE; rw [hd]; rfl
    have hb : x.readB i = [] := by unfold Dv.readB; rw [he, if_neg (by decide)]
    rw [he, hb]
    rw [hd] at c3
    clear h he hb hd
    go_enter Try.func23, Try.ntmps23
    go_wp2
    go_ret2
    exact ⟨_, rfl, .inl ⟨rfl, rfl⟩, After.rfl⟩
  | false =>
    rw [hd] at c3
    by_cases hi : 0 ≤ i ∧ i < x.n
    · obtain ⟨j, rfl⟩ : ∃ j : Nat, i = j := ⟨i.toNat, by omega⟩
      have hj : j < x.n := by omega
      have he : x.readE j = 0 := by rw [readE_live hd, if_pos hi]
      have hb : x.readB j = x.last j := by unfold Dv.readB; rw [he, if_pos rfl, Int.toNat_natCast]
      rw [he, hb]
      obtain ⟨b, c, cb, hr, _⟩ := h.rl.cell hj
      have HC := hideIt (copy64 w ⟨b, 0, none⟩ c _ hr)
      clear h he hb hd hi hr
      have i0 : ¬ (j : Int) < 0 := by omega
      have i1 : (j : Int) < (x.n : Int) := by omega
      have i2 : (0 : Int) ≤ (j : Int) := by omega
      generalize x.last j = R at *
      generalize x.n = n at *
      go_enter Try.func23, Try.ntmps23
      go_wp2_with (go_at_call 40; refine HC.out.mono ?_; rintro e w' ⟨b', c', rfl, h1, h2, h3, h4, h5⟩; have HO := hideIt (And.intro h1 (And.intro h3 h5)); clear h1 h2 h3 h4 h5)
      go_ret2
      exact ⟨_, rfl, .inr ⟨_, _, rfl, HO.out.1, HO.out.2.1⟩, HO.out.2.2⟩
    · have he : x.readE i = 2 := by rw [readE_live hd, if_neg hi]
      have hb : x.readB i = [] := by unfold Dv.readB; rw [he, if_neg (by decide)]
      rw [he, hb]
      clear h he hb hd
      generalize x.n = n at *
      by_cases i0 : i < 0
      · go_enter Try.func23, Try.ntmps23
        go_wp2
        go_ret2
        exact ⟨_, rfl, .inl ⟨rfl, rfl⟩, After.rfl⟩
      · have i1 : ¬ i < (n : Int) := by omega
        have i2 : (n : Int) ≤ i := by omega
        clear hi
        go_enter Try.func23, Try.ntmps23
        go_wp2
        go_ret2
        exact ⟨_, rfl, .inl ⟨rfl, rfl⟩, After.rfl⟩
end Go.Proofs.Ytalffdiohjcajaa
