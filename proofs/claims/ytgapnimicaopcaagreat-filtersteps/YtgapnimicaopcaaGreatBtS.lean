/-
  New, Beat and Rate of the document's beats; Beat of package beats, said of all ticks that were taken.
-/
import Derived.Test.YtgapnimicaopcaaGreatBtC
namespace Go.Proofs.YtgapnimicaopcaaGreat.L12
open Go.RowKit
set_option maxRecDepth 8000
/-- A beat, of all that were taken. -/
theorem btBeat_any {w : World} {p B n : Nat} {L : List Int} {v : Value} (x : BtX w p B n (lastN n L) v) (hBs : B ≤ w.heap.size) (t : Int) : Calls Tryz.prog 67 #[Ptr p, .int .i64 t] w fun e w' => e = .returned (.int .i64 (errT L t)) ∧ But (One p) w w' ∧ ∃ u, BtX w' p B n (lastN n (nxt L t)) u ∧ (u = v ∨ ∀ k, u.ownBlock = some k → w.heap.size ≤ k) := by
  have hn : 0 < n := by have := x.may; omega
  have hi : Fol (lastN n L) t ↔ Fol L t := by unfold Fol; rw [ear_last hn]
  by_cases h : Fol L t
  · rw [(nxt_yes h).1, (nxt_yes h).2]
    refine (btBeat_yes x hBs (hi.2 h)).mono ?_
    rintro e w' ⟨rfl, b, u, x', hu⟩
    rw [← last_kp hn] at x'
    exact ⟨rfl, b, u, x', .inr hu⟩
  · rw [(nxt_no h).1, (nxt_no h).2]
    refine (btBeat_no x (fun k => h (hi.1 k))).mono ?_
    rintro e w' ⟨rfl, d⟩
    exact ⟨rfl, d.after.but, v, x.after d.after, .inl rfl⟩
/-- The document's beats lie at g: all ticks L, in a block from B on. -/
structure RbX (w : World) (g B n : Nat) (L : List Int) (v : Value) : Prop where
  at0 : w.heap[g]? = some (.cells #[.int .i64 (n : Int), v] 129 (0, 0))
  own : OInts w B v L
  hB : g < B
  may : 2 ≤ n ∧ n ≤ 8
  rise : Rise L
theorem RbX.lt {w : World} {g B n : Nat} {L : List Int} {v : Value} (x : RbX w g B n L v) : g < w.heap.size := blk_lt x.at0
theorem RbX.but {S : Nat → Prop} {w w' : World} {g B n : Nat} {L : List Int} {v : Value} (x : RbX w g B n L v) (b : But S w w') (hg : ¬ S g) (hs : ∀ k, v.ownBlock = some k → ¬ S k) : RbX w' g B n L v :=
  { x with at0 := (b.block g (blk_lt x.at0) hg).trans x.at0, own := own_but x.own b hs }
theorem RbX.after {w w' : World} {g B n : Nat} {L : List Int} {v : Value} (x : RbX w g B n L v) (a : After w w') : RbX w' g B n L v := x.but a (fun t => t) (fun _ _ t => t)
theorem rbNew_ok (w : World) (n : Int) (h : May n) : Calls Tryz.prog 37 #[.int .i64 n] w fun e w' => e = .returned (.tuple #[Ptr w.heap.size, .int .i64 0]) ∧ w' = w.alloc (.cells #[.int .i64 n, .slice none 0 0] 129) := by
  obtain ⟨h1, h2⟩ := h
  go_enter Tryz.func37, Tryz.ntmps37
  go_wp2
  go_ret2
  exact ⟨rfl, rfl⟩
theorem rbNew_no (w : World) (n : Int) (h : ¬ May n) : Calls Tryz.prog 37 #[.int .i64 n] w fun e w' => e = .returned (.tuple #[.pointer none, .int .i64 2]) ∧ w' = w := by
  rcases (by unfold May at h; omega : n < 2 ∨ (¬ n < 2 ∧ 8 < n)) with h1 | ⟨h1, h2⟩
  all_goals
    clear h
    go_enter Tryz.func37, Tryz.ntmps37
    go_wp2
    go_ret2
    exact ⟨rfl, rfl⟩
theorem rb_new {w : World} {g B n : Nat} (hB : g < B) (h : w.heap[g]? = some (.cells #[.int .i64 (n : Int), .slice none 0 0] 129 (0, 0))) (h1 : 2 ≤ n) (h2 : n ≤ 8) : RbX w g B n [] (.slice none 0 0) :=
  ⟨h, own_nil w B, hB, ⟨h1, h2⟩, Rise.nil⟩
theorem rbBeat_nil (w : World) (y : Int) : Calls Tryz.prog 48 #[.pointer none, .int .i64 y] w fun e w' => e = .returned (.int .i64 1) ∧ w' = w := by
  go_enter Tryz.func48, Tryz.ntmps48
  go_wp2
  go_ret
  exact ⟨rfl, rfl⟩
theorem rbRate_nil (w : World) : Calls Tryz.prog 49 #[.pointer none] w fun e w' => e = .returned (.tuple #[.int .i64 0, .bool false]) ∧ w' = w := by
  go_enter Tryz.func49, Tryz.ntmps49
  go_wp2
  go_ret2
  exact ⟨rfl, rfl⟩
/-- One more behind ints of one's own: where they then lie. -/
theorem app_own {w : World} {ops : Array Oper} {rest : List Oper} {o : Oper} {act : Act} {Q : Exit → Act → World → Prop} (hgd : o.guard = none) (s x : Operand)
    (ho : o.op = .call { callee := .builtin .append, args := #[s, x], argTypes := #[107, 107] }) (B : Nat) (v : Value) (zs : List Int) (hs : act.eval s = v) (hown : OInts w B v zs)
    (ad : Addr) (y : Int) (hx : act.eval x = .slice (some ad) 1 1) (hr : IRow w (some ad) 1 [y]) (hb : zs.length + 1 ≤ 17592186044416) (hbase : B ≤ w.heap.size)
    (h : ∀ a' c w', OInts w' B (.slice a' (zs ++ [y]).length c) (zs ++ [y]) → But (fun k => v.ownBlock = some k) w w' → ((Value.slice a' (zs ++ [y]).length c).ownBlock = v.ownBlock ∨ (Value.slice a' (zs ++ [y]).length c).ownBlock = some w.heap.size) → wpList Tryz.prog ops Q rest (act.put o.dst (.slice a' (zs ++ [y]).length c)) w') : wpList Tryz.prog ops Q (o :: rest) act w := by
  obtain ⟨i0, hi, hz⟩ := Option.map_eq_some_iff.1 Tryz.infoInt
  simp only [Prod.mk.injEq] at hz
  obtain ⟨hz0, hz1, hz2⟩ := hz
  refine wpList_append_own_at w hgd s x 107 ho B 3 i0 (.int .i64 0) 1 8 Tryz.underlying107 hi hz0 hz1 hz2 rfl (by decide) v zs.length (i64s zs) hs hown ad 1 1 (i64s [y]) hx rfl (irow_news hr) (i64s_one _) (by unfold maxLen; omega) (by omega) hbase ?_
  intro v' w' h1 h2 _ h4
  rw [i64s_append] at h1
  have e : zs.length + 1 = (zs ++ [y]).length := by rw [List.length_append, List.length_singleton]
  rw [e] at h1
  obtain ⟨a', c, rfl⟩ := own_lit h1
  exact h a' c w' h1 (But.grown But.rfl h2 (fun k hk _ => hk)) h4
theorem rb_store {w w1 w2 : World} {g B n : Nat} {L : List Int} {v u : Value} {t : Int} (x : RbX w g B n L v) (ht : Fol L t) (a1 : After w w1) (hown : OInts w2 B u (L ++ [t])) (b2 : But (fun k => v.ownBlock = some k) w1 w2) (hu : u.ownBlock = v.ownBlock ∨ u.ownBlock = some w1.heap.size) :
    RbX (w2.setCell ⟨g, 1, none⟩ u) g B n (L ++ [t]) u ∧ But (fun k => k = g ∨ v.ownBlock = some k) w (w2.setCell ⟨g, 1, none⟩ u) ∧ (u.ownBlock = v.ownBlock ∨ ∀ k, u.ownBlock = some k → w.heap.size ≤ k) := by
  have hg := x.lt
  have hB := x.hB
  have hs1 := a1.size
  have b3 : But (fun k => v.ownBlock = some k) w w2 := a1.but.trans b2
  have h0 : w2.heap[g]? = _ := (b3.block g hg (fun t => by have := (own_lt x.own t).1; omega)).trans x.at0
  refine ⟨⟨two_set1 h0 _, ?_, hB, x.may, x.rise.snoc ht⟩, (b3.mono (fun _ _ t => .inr t)).trans (But.set (S := fun k => k = g ∨ v.ownBlock = some k) But.rfl ⟨g, 1, none⟩ (fun _ => .inl rfl) _), ?_⟩
  · refine own_but hown (but_one _ _ _ _) (fun k h t => ?_)
    have h1 := (own_lt hown h).1
    have h2 : k = g := t
    omega
  · rcases hu with hu | hu
    · exact .inl hu
    · refine .inr (fun k hk => ?_)
      rw [hu] at hk
      cases hk
      exact hs1
theorem fol_cases (L : List Int) (t : Int) : (¬ Fol L t ∧ t < 0) ∨ (¬ Fol L t ∧ ¬ t < 0 ∧ 2147483647 < t) ∨ (¬ Fol L t ∧ ¬ t < 0 ∧ ¬ 2147483647 < t ∧ 0 < L.length ∧ t ≤ L.getD (L.length - 1) 0) ∨ (Fol L t ∧ ¬ t < 0 ∧ ¬ 2147483647 < t ∧ L.length = 0) ∨ (Fol L t ∧ ¬ t < 0 ∧ ¬ 2147483647 < t ∧ 0 < L.length ∧ ¬ t ≤ L.getD (L.length - 1) 0) ∨ (0 < L.length ∧ L.getD (L.length - 1) 0 < 0) := by
  unfold Fol ear
  by_cases h : L.length = 0
  · rw [if_pos h]; omega
  · rw [if_neg h]; omega
set_option maxHeartbeats 1000000 in
theorem rbBeat_no {w : World} {g B n : Nat} {L : List Int} {v : Value} (x : RbX w g B n L v) (hl : L.length < 17592186044416) {t : Int} (hf : ¬ Fol L t) : Calls Tryz.prog 48 #[Ptr g, .int .i64 t] w fun e w' => e = .returned (.int .i64 9) ∧ Dr w w' := by
  obtain ⟨-, c0, c1, -, -⟩ := two_at x.at0
  have hn0 : ¬ (n : Int) = 0 := by have := x.may; omega
  have hb0 : ((n : Int) == 0) = false := by simpa using hn0
  have hcs := fol_cases L t
  obtain ⟨a, c, rfl, ir, -, -, -⟩ := own_irow x.own
  rcases hcs with ⟨-, g1⟩ | ⟨-, g1, g2⟩ | ⟨-, g1, g2, g3, g4⟩ | ⟨h, -⟩ | ⟨h, -⟩ | ⟨g3, g4⟩
  · have d1 := decide_eq_true g1
    clear x hf hl ir
    generalize L.length = k at *
    go_enter Tryz.func48, Tryz.ntmps48
    go_wp2
    go_quiet (fail)
    go_wp2
    go_ret
    exact ⟨rfl, _, rfl⟩
  · have d1 := decide_eq_false g1
    have d2 := decide_eq_true g2
    clear x hf hl ir g1 g2
    generalize L.length = k at *
    go_enter Tryz.func48, Tryz.ntmps48
    go_wp2
    go_quiet (fail)
    go_wp2
    go_ret
    exact ⟨rfl, _, rfl⟩
  · obtain ⟨b, off, rfl, -, ec⟩ := ir.2 (L.length - 1) (by omega)
    generalize L.getD (L.length - 1) 0 = y at *
    have d1 := decide_eq_false g1
    have d2 := decide_eq_false g2
    have d4 := decide_eq_true g4
    obtain ⟨q, hq⟩ : ∃ q : Nat, q = L.length - 1 := ⟨_, rfl⟩
    rw [← hq] at ec
    clear x hf ir g1 g2 g4
    generalize L.length = k at *
    have d3 : decide (0 < k) = true := decide_eq_true g3
    have d5 : decide ((0 : Int) < (k : Int)) = true := decide_eq_true (by omega)
    have i1 : (k : Int) - 1 = (q : Int) := by omega
    have i2 : (q : Int) < (k : Int) := by omega
    have i4 : (k : Int) ≤ 17592186044416 := by omega
    have w1 : IntKind.i64.wrap (q : Int) = (q : Int) := IntWalk.i64_in _ (by omega)
    clear hq hl
    go_enter Tryz.func48, Tryz.ntmps48
    go_wp2
    go_quiet (fail)
    go_wp2
    go_ret
    exact ⟨rfl, _, rfl⟩
  · exact absurd h hf
  · exact absurd h hf
  · have := x.rise.lo (L.length - 1) (by omega)
    omega
end Go.Proofs.YtgapnimicaopcaaGreat.L12
