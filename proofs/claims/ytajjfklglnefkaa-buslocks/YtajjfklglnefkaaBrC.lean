/-
  The document's ring: its numbers lie in a slice that is cut at the front and appended to.
-/
import Derived.Test.YtajjfklglnefkaaBrA
import Derived.BigQuiet
namespace Go.Proofs.Ytajjfklglnefkaa
open Go.RowKit
set_option maxRecDepth 8000
/-- Numbers in a slice of one's own, wherever it begins in its block. -/
structure Que (w : World) (P : Nat → Prop) (a : Option Addr) (n c : Nat) (xs : List Int) : Prop where
  len : xs.length = n
  le : n ≤ c
  nil : a = none → c = 0
  blk : 0 < c → ∃ b off cs, a = some ⟨b, off, none⟩ ∧ P b ∧ w.heap[b]? = some (.cells cs 3 (0, 0)) ∧ off + c ≤ cs.size ∧ ∀ i x, xs[i]? = some x → cs[off + i]? = some (.int .i64 x)
theorem Que.but {S : Nat → Prop} {w w' : World} {P : Nat → Prop} {a : Option Addr} {n c : Nat} {xs : List Int} (h : Que w P a n c xs) (b : But S w w') (hs : ∀ k, P k → ¬ S k) : Que w' P a n c xs :=
  ⟨h.len, h.le, h.nil, fun hc => by
    obtain ⟨bb, off, cs, h1, h2, h3, h4⟩ := h.blk hc
    exact ⟨bb, off, cs, h1, h2, (b.block bb (Array.getElem?_eq_some_iff.1 h3).1 (hs bb h2)).trans h3, h4⟩⟩
theorem Que.mono {w : World} {P P' : Nat → Prop} {a : Option Addr} {n c : Nat} {xs : List Int} (h : Que w P a n c xs) (hp : ∀ k, P k → P' k) : Que w P' a n c xs :=
  ⟨h.len, h.le, h.nil, fun hc => by
    obtain ⟨bb, off, cs, h1, h2, h3⟩ := h.blk hc
    exact ⟨bb, off, cs, h1, hp _ h2, h3⟩⟩
theorem Que.none (w : World) (P : Nat → Prop) : Que w P none 0 0 [] := ⟨rfl, Nat.le_refl _, fun _ => rfl, fun h => absurd h (by omega)⟩
theorem Que.first {w : World} {P : Nat → Prop} {a : Option Addr} {n c : Nat} {y : Int} {xs : List Int} (h : Que w P a n c (y :: xs)) : ∃ b off, a = some ⟨b, off, Option.none⟩ ∧ P b ∧ b < w.heap.size ∧ w.cell? ⟨b, off, Option.none⟩ = some (.int .i64 y) ∧ 0 < c := by
  have hl := h.len
  have hle := h.le
  rw [List.length_cons] at hl
  obtain ⟨b, off, cs, h1, h2, h3, h4, h5⟩ := h.blk (by omega)
  exact ⟨b, off, h1, h2, (Array.getElem?_eq_some_iff.1 h3).1, blk_cell h3 (h5 0 y rfl), by omega⟩
/-- Cut by one at the front. -/
theorem Que.cut {w : World} {P : Nat → Prop} {b off n c : Nat} {y : Int} {xs : List Int} (h : Que w P (some ⟨b, off, Option.none⟩) (n + 1) (c + 2) (y :: xs)) : Que w P (some ⟨b, off + 1, Option.none⟩) n (c + 1) xs := by
  have hl := h.len
  have hle := h.le
  rw [List.length_cons] at hl
  refine ⟨by omega, by omega, (fun e => by cases e), fun _ => ?_⟩
  obtain ⟨b', off', cs, h1, h2, h3, h4, h5⟩ := h.blk (by omega)
  cases h1
  refine ⟨b, off + 1, cs, rfl, h2, h3, by omega, fun i x hx => ?_⟩
  rw [show off + 1 + i = off + (i + 1) by omega]
  exact h5 (i + 1) x (by simpa using hx)
theorem Que.cut1 {w : World} {P : Nat → Prop} {a : Option Addr} {n : Nat} {y : Int} {xs : List Int} (h : Que w P a (n + 1) 1 (y :: xs)) : Que w P a n 0 xs := by
  have hl := h.len
  have hle := h.le
  rw [List.length_cons] at hl
  exact ⟨by omega, by omega, fun _ => rfl, fun h => absurd h (by omega)⟩
/-- One more behind, with room or without. -/
theorem app_que {w : World} {ops : Array Oper} {rest : List Oper} {o : Oper} {act : Act} {Q : Exit → Act → World → Prop} (hgd : o.guard = none) (s x : Operand)
    (ho : o.op = .call { callee := .builtin .append, args := #[s, x], argTypes := #[36, 36] }) (P : Nat → Prop) (a : Option Addr) (n c : Nat) (xs : List Int) (hv : act.eval s = .slice a n c) (hq : Que w P a n c xs) (ad : Addr) (y : Int) (hx : act.eval x = .slice (some ad) 1 1) (hc : w.cell? ad = some (.int .i64 y)) (hl : n ≤ 1000)
    (hK : ∀ a' c' w', Que w' (fun k => P k ∨ w.heap.size ≤ k) a' (n + 1) c' (xs ++ [y]) → But P w w' → wpList Try.prog ops Q rest (act.put o.dst (.slice a' (n + 1) c')) w') : wpList Try.prog ops Q (o :: rest) act w := by
  obtain ⟨i0, hi, hz⟩ := Option.map_eq_some_iff.1 Try.infoInt
  simp only [Prod.mk.injEq] at hz
  obtain ⟨hz0, hz1, hz2⟩ := hz
  have hxl := hq.len
  have hnews : ∀ j u, [Value.int .i64 y][j]? = some u → w.cell? (ad.add j) = some u := by
    intro j u hj
    cases j with
    | zero =>
      simp at hj
      subst hj
      simpa [Addr.add] using hc
    | succ j => simp at hj
  have hone : ∀ u ∈ [Value.int .i64 y], u.oneCell' = true := fun u hu => by cases hu with | head => rfl | tail _ h => cases h
  by_cases hr : n + 1 ≤ c
  · obtain ⟨b, off, cs, rfl, hb, hblk, hoff, hcs⟩ := hq.blk (by omega)
    have hblt := (Array.getElem?_eq_some_iff.1 hblk).1
    have hsome : cs[off + n]? = some cs[off + n] := Array.getElem?_eq_getElem (by omega)
    refine wpList_plain hgd fun K hK' => ?_
    have hrun := run_append_room_cells (P := Try.prog) w 36 o.type 3 i0 Try.underlying36 hi b off n c ad 1 1 [.int .i64 y] (by rw [hz1]; rfl) hnews hone hr
      (fun j hj => by
        simp at hj
        subst hj
        rw [hz1, Nat.mul_one, Nat.add_zero, blk_cell hblk hsome]
        rfl) (fun j _ => blk_soft hblk _)
    rw [hz1, Nat.mul_one] at hrun
    have hset : w.setCells b (off + n) [.int .i64 y] = w.setCell ⟨b, off + n, none⟩ (.int .i64 y) := by rfl
    rw [hset] at hrun
    unfold Oper.wp
    simp [execOp, ho, resolve, invoke, builtin, hv, hx, hrun, Result.andThen]
    refine hK' _ _ (hK _ c _ ⟨by simp [hxl], hr, (fun e => by cases e), fun _ => ⟨b, off, _, rfl, .inl hb, blk_put hblk (off + n) (.int .i64 y), by simpa using hoff, fun i z hz => ?_⟩⟩ (But.set (S := P) But.rfl ⟨b, off + n, none⟩ (fun _ => hb) _))
    have hil := (List.getElem?_eq_some_iff.1 hz).1
    rw [List.length_append, List.length_singleton] at hil
    by_cases e : i = n
    · subst e
      rw [set_at (by omega)]
      rw [← hxl] at hz
      simp at hz
      rw [hz]
    · rw [set_off (by omega)]
      exact hcs i z (by rwa [List.getElem?_append_left (by omega)] at hz)
  · refine wpList_append_grows w hgd s x 36 ho 3 i0 (.int .i64 0) 1 8 Try.underlying36 hi hz0 hz1 hz2 rfl (by decide) a n c (xs.map (Value.int .i64)) hv (fun e => ?_) (by simp [hxl]) (fun b e j u hj => ?_) ad 1 1 [.int .i64 y] hx rfl hnews hone (by omega) (by unfold maxLen; omega) (by omega) ?_
    · have := hq.nil e
      have := hq.le
      omega
    · have hj' : j < xs.length := by
        have := (List.getElem?_eq_some_iff.1 hj).1
        simpa using this
      have hle := hq.le
      obtain ⟨b', off, cs, e', hb, hblk, hoff, hcs⟩ := hq.blk (by omega)
      rw [e] at e'
      cases e'
      have ee : (⟨b', off, none⟩ : Addr).add j = ⟨b', off + j, none⟩ := by
        by_cases h0 : j = 0
        · subst h0; simp [Addr.add]
        · simp [Addr.add, h0]
      rw [ee]
      refine blk_cell hblk ?_
      rw [hcs j xs[j] (List.getElem?_eq_getElem hj')]
      rw [List.getElem?_map, List.getElem?_eq_getElem hj'] at hj
      exact hj
    · intro v' w' hown hgrow
      rcases hown.2 with ⟨_, h0⟩ | ⟨gg, cap, cur, rfl, hgg, hcur, hnc, _, hcs, htk⟩
      · omega
      · refine hK _ cap w' ⟨by simp [hxl], hnc, (fun e => by cases e), fun _ => ⟨gg, 0, cur, rfl, .inr hgg, hcur, by omega, fun i z hz => ?_⟩⟩ (But.grown (S := P) But.rfl hgrow (fun k hk => by cases hk))
        have hil := (List.getElem?_eq_some_iff.1 hz).1
        rw [List.length_append, List.length_singleton] at hil
        have h2 : (cur.toList.take ((n + 1) * 1))[i]? = some (Value.int .i64 z) := by
          rw [htk]
          have : xs.map (Value.int .i64) ++ [Value.int .i64 y] = (xs ++ [y]).map (Value.int .i64) := by simp
          rw [this, List.getElem?_map, hz]
          rfl
        rw [Nat.mul_one, List.getElem?_take_of_lt (by omega), Array.getElem?_toList] at h2
        rw [Nat.zero_add]
        exact h2
/-- The document's ring lies at g, its numbers in another block of S. -/
structure RfX (w : World) (S : Nat → Prop) (g n : Nat) (s : Sg) (a : Option Addr) (c : Nat) : Prop where
  at0 : w.heap[g]? = some (.cells #[.int .i64 (n : Int), .slice a s.l.length c, .int .i64 (s.since : Int), .int .i64 (s.all : Int)] 85 (0, 0))
  inS : S g
  que : Que w (fun k => S k ∧ k ≠ g) a s.l.length c s.l
  pos : 0 < n
  hn : n ≤ 16
  hl : s.l.length ≤ n
  hsince : s.since ≤ s.all
  hall : s.all ≤ 1000000
def Rf (w : World) (S : Nat → Prop) (g n : Nat) (s : Sg) : Prop := ∃ a c, RfX w S g n s a c
theorem Rf.lt {w : World} {S : Nat → Prop} {g n : Nat} {s : Sg} (x : Rf w S g n s) : g < w.heap.size := by
  obtain ⟨a, c, x⟩ := x
  exact (Array.getElem?_eq_some_iff.1 x.at0).1
theorem Rf.but {S T : Nat → Prop} {w w' : World} {g n : Nat} {s : Sg} (x : Rf w S g n s) (b : But T w w') (hs : ∀ k, S k → ¬ T k) : Rf w' S g n s := by
  obtain ⟨a, c, x⟩ := x
  exact ⟨a, c, { x with at0 := (b.block g (Array.getElem?_eq_some_iff.1 x.at0).1 (hs g x.inS)).trans x.at0, que := x.que.but b (fun k hk => hs k hk.1) }⟩
theorem Rf.mono {S T : Nat → Prop} {w : World} {g n : Nat} {s : Sg} (x : Rf w S g n s) (hs : ∀ k, S k → T k) : Rf w T g n s := by
  obtain ⟨a, c, x⟩ := x
  exact ⟨a, c, { x with inS := hs g x.inS, que := x.que.mono (fun k hk => ⟨hs k hk.1, hk.2⟩) }⟩
theorem four_at {w : World} {g : Nat} {T : TypeId} {x0 x1 x2 x3 : Value} (h : w.heap[g]? = some (.cells #[x0, x1, x2, x3] T (0, 0))) :
    (w.cell? ⟨g, 0, none⟩ = some x0 ∧ w.cell? ⟨g, 1, none⟩ = some x1 ∧ w.cell? ⟨g, 2, none⟩ = some x2 ∧ w.cell? ⟨g, 3, none⟩ = some x3) ∧ w.frozen? ⟨g, 1, none⟩ = false ∧ w.frozen? ⟨g, 2, none⟩ = false ∧ w.frozen? ⟨g, 3, none⟩ = false :=
  ⟨⟨blk_cell h rfl, blk_cell h rfl, blk_cell h rfl, blk_cell h rfl⟩, blk_soft h _, blk_soft h _, blk_soft h _⟩
theorem rfNew_ok (w : World) (n : Int) (h1 : 1 ≤ n) (h2 : n ≤ 16) : Calls Try.prog 35 #[.int .i64 n] w fun e w' => e = .returned (.tuple #[Ptr w.heap.size, .int .i64 0]) ∧ w' = w.alloc (.cells #[.int .i64 n, .slice none 0 0, .int .i64 0, .int .i64 0] 85) := by
  go_enter Try.func35, Try.ntmps35
  go_wp2
  go_ret2
  exact ⟨rfl, rfl⟩
theorem rf_new {w : World} {S : Nat → Prop} {g n : Nat} (hS : S g) (h : w.heap[g]? = some (.cells #[.int .i64 (n : Int), .slice none 0 0, .int .i64 0, .int .i64 0] 85 (0, 0))) (h1 : 1 ≤ n) (h2 : n ≤ 16) : Rf w S g n Sg.new :=
  ⟨none, 0, h, hS, Que.none w _, h1, h2, Nat.zero_le _, Nat.le_refl _, Nat.zero_le _⟩
theorem rfLen_any {w : World} {S : Nat → Prop} {g n : Nat} {s : Sg} (x : Rf w S g n s) : Calls Try.prog 37 #[Ptr g] w fun e w' => e = .returned (.int .i64 (s.l.length : Int)) ∧ w' = w := by
  obtain ⟨a, c, x⟩ := x
  obtain ⟨⟨_, c1, _, _⟩, _⟩ := four_at x.at0
  clear x
  go_enter Try.func37, Try.ntmps37
  go_wp2
  go_ret
  exact ⟨rfl, rfl⟩
end Go.Proofs.Ytajjfklglnefkaa
