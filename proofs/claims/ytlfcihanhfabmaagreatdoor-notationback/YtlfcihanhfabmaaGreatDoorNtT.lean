/-
  Texts of formulas: over lists alone; the program's step, words, the closure part, nodeText.
-/
import Derived.Test.YtlfcihanhfabmaaGreatDoorNtC
namespace Go.Proofs.YtlfcihanhfabmaaGreatDoor
open Go.RowKit
set_option maxRecDepth 8000
open L1 (S)
/-- The grammar's step of an operation. -/
def lvl (op : Int) : Nat := if op = 8 then 0 else if op = 7 then 1 else if op = 12 then 2 else 3
def ndAt (L : List Nd) (k : Int) : Nd := L.getD k.toNat Nd.none
def txAt (T : List W8) (k : Int) : W8 := T.getD k.toNat []
/-- A part's text, in brackets where they are wanted. -/
def parT (L : List Nd) (T : List W8) (k : Int) (least : Nat) : W8 := if lvl (ndAt L k).op < least then 40 :: (txAt T k ++ [41]) else txAt T k
/-- A node's text, out of those of its parts. -/
def nodeT (L : List Nd) (T : List W8) (x : Nd) : W8 :=
  if x.op = 0 then wTrue
  else if x.op = 1 ∨ x.op = 2 then chanW x.a.toNat ++ 32 :: (wordOf x.op ++ 32 :: L1.textL x.n)
  else if x.op = 3 ∨ x.op = 4 ∨ x.op = 5 then chanW x.a.toNat ++ 32 :: wordOf x.op
  else if x.op = 6 ∨ x.op = 9 then wordOf x.op ++ 32 :: parT L T x.a 3
  else if x.op = 10 ∨ x.op = 11 then wordOf x.op ++ 32 :: (dig x.n.toNat ++ 32 :: parT L T x.a 3)
  else if x.op = 12 then parT L T x.a 3 ++ 32 :: (wSince ++ 32 :: parT L T x.b 3)
  else parT L T x.a (lvl x.op) ++ 32 :: (wordOf x.op ++ 32 :: parT L T x.b (lvl x.op + 1))
/-- The texts of these nodes behind those that there are. -/
def txs (L : List Nd) : List Nd → List W8 → List W8
  | [], T => T
  | x :: r, T => txs L r (T ++ [(nodeT L T x).take 1025])
def rootT (L : List Nd) : W8 := (txs L L []).getD (L.length - 1) []
/-- What Text answers. -/
def textV (L : List Nd) : W8 := if chk L 8 = 0 then (if 1024 < (rootT L).length then [] else rootT L) else []
def textE (L : List Nd) : Int := if chk L 8 = 0 then (if 1024 < (rootT L).length then 5 else 0) else chk L 8
/-- Strings in a row. -/
def strE : Enc W8 where
  k := 1
  enc x := [.string (S x)]
  len _ := rfl
  one x u hu := by
    simp only [List.mem_cons, List.not_mem_nil, or_false] at hu
    rcases hu with rfl; rfl
  pos := by decide
def isSt (xs : List W8) : Wd := fun v w => ∃ a, v = .slice (some a) xs.length xs.length ∧ GRow strE w (some a) xs.length xs
theorem isSt_st (xs : List W8) : (isSt xs).Stable := fun _ _ _ h b => by
  obtain ⟨a, e, h1⟩ := h
  exact ⟨a, e, h1.after b⟩
theorem step_any (op : Int) (w : World) : Calls Tryz.prog 63 #[.int .i64 op] w fun e w' => e = .returned (.int .i64 (lvl op : Int)) ∧ w' = w := by
  rcases (by omega : op = 8 ∨ op = 7 ∨ op = 12 ∨ (¬ op = 8 ∧ ¬ op = 7 ∧ ¬ op = 12)) with rfl | rfl | rfl | ⟨h1, h2, h3⟩
  all_goals
    try rw [show lvl op = 3 from by unfold lvl; simp [*]]
    go_enter Tryz.func63, Tryz.ntmps63
    go_wp2
    go_ret
    exact ⟨rfl, rfl⟩
def jn (xs : List W8) : W8 := Lib.join xs [32]
theorem jn2 (a b : W8) : jn [a, b] = a ++ 32 :: b := by simp [jn, Lib.join, List.intercalate]
theorem jn3 (a b c : W8) : jn [a, b, c] = a ++ 32 :: (b ++ 32 :: c) := by simp [jn, Lib.join, List.intercalate]
theorem words_any (xs : List W8) (v : Value) (w : World) (h : isSt xs v w) (h0 : 0 < xs.length) (hl : xs.length ≤ 100) (hj : (jn xs).length ≤ 100000) : Calls Tryz.prog 65 #[v] w fun e w' => e = .returned (.string (S (jn xs))) ∧ After w w' := by
  obtain ⟨⟨bk, o, sub⟩, rfl, hr⟩ := h
  have hsub : sub = none := by
    obtain ⟨b, off, x, e, _⟩ := hr.2 0 h0
    cases e; rfl
  subst hsub
  have hlt : bk < w.heap.size := by
    obtain ⟨b, off, e, hb⟩ := hr.lt h0
    cases e; exact hb
  have hm : (xs.map S).map (·.data.toList) = xs := by
    rw [List.map_map]
    exact (List.map_congr_left (fun x _ => L1.S_list x)).trans (List.map_id xs)
  have key := Tryz.strings_Join bk o xs.length (xs.map S) ⟨#[32]⟩ w (fun j x hx => ?_) hlt (by rw [List.length_map]; omega) (by rw [List.length_map]; exact Nat.le_refl _) (by rw [hm]; show (jn xs).length ≤ _; omega)
  · rw [hm, List.length_map] at key
    have HK := hideIt key
    clear key hr hm hlt
    go_enter Tryz.func65, Tryz.ntmps65
    go_wp2_with fail
    refine HK.out.mono ?_
    rintro e w1 ⟨rfl, a1⟩
    have HA := hideIt (After.of a1)
    clear a1
    go_wp2
    go_ret
    exact ⟨rfl, HA.out⟩
  · rw [List.getElem?_map] at hx
    obtain ⟨y, hy, rfl⟩ := Option.map_eq_some_iff.1 hx
    have hjl : j < xs.length := by
      rcases Nat.lt_or_ge j xs.length with h' | h'
      · exact h'
      · rw [List.getElem?_eq_none h'] at hy; cases hy
    obtain ⟨b, off, z, e, _, hz, hc⟩ := hr.2 j hjl
    cases e
    rw [hy] at hz
    cases hz
    have := hc 0 _ rfl
    simpa [strE] using this
/-- What nodeText's closure sees: nodes and texts. -/
structure Sees (w : World) (b1 b2 : Nat) (L : List Nd) (T : List W8) : Prop where
  l : ∃ a c, w.cell? ⟨b1, 0, none⟩ = some (.slice a L.length c) ∧ NRow w a L.length L
  t : ∃ a c, w.cell? ⟨b2, 0, none⟩ = some (.slice a T.length c) ∧ GRow strE w a T.length T
  short : ∀ t ∈ T, t.length ≤ 1025
theorem Sees.after {w w' : World} {b1 b2 : Nat} {L : List Nd} {T : List W8} (h : Sees w b1 b2 L T) (a : After w w') : Sees w' b1 b2 L T := by
  obtain ⟨a1, c1, h1, r1⟩ := h.l
  obtain ⟨a2, c2, h2, r2⟩ := h.t
  exact ⟨⟨a1, c1, (a.cell (cell_lt h1) 0).trans h1, r1.after a⟩, ⟨a2, c2, (a.cell (cell_lt h2) 0).trans h2, r2.after a⟩, h.short⟩
theorem txAt_short {T : List W8} (h : ∀ t ∈ T, t.length ≤ 1025) (k : Int) : (txAt T k).length ≤ 1025 := by
  unfold txAt
  rcases hk : T[k.toNat]? with _ | t
  · simp [hk]
  · simp [hk]; exact h t (List.mem_of_getElem? hk)
theorem parT_short {T : List W8} (h : ∀ t ∈ T, t.length ≤ 1025) (L : List Nd) (k : Int) (m : Nat) : (parT L T k m).length ≤ 1027 := by
  have := txAt_short h k
  unfold parT
  split
  · simp; omega
  · omega
set_option maxHeartbeats 400000 in
theorem partT_any {w : World} {b1 b2 : Nat} {L : List Nd} {T : List W8} (x : Sees w b1 b2 L T) (k least : Nat) (hk : k < T.length) (hkL : k < L.length) : Calls Tryz.prog 62 #[.int .i64 (k : Int), .int .i64 (least : Int), Ptr b1, Ptr b2] w fun e w' => e = .returned (.string (S (parT L T k least))) ∧ After w w' := by
  obtain ⟨a1, c1, h1, r1⟩ := x.l
  obtain ⟨a2, c2, h2, r2⟩ := x.t
  obtain ⟨bn, offn, y, rfl, hbn, hy, q0, q1, q2, q3⟩ := nrow_at r1 hkL
  obtain ⟨bt, offt, t, rfl, hbt, ht, hc⟩ := r2.2 k hk
  have qt : w.cell? ⟨bt, offt + k, none⟩ = some (.string (S t)) := by simpa [strE] using hc 0 _ rfl
  have l1 := cell_lt h1
  have l2 := cell_lt h2
  have i1 : (k : Int) < (L.length : Int) := by omega
  have i2 : (k : Int) < (T.length : Int) := by omega
  have i3 : (0 : Int) ≤ (k : Int) := by omega
  have hn : ndAt L k = y := by unfold ndAt; simp [hy]
  have htt : txAt T k = t := by unfold txAt; simp [ht]
  have hts : t.length ≤ 1025 := x.short t (List.mem_of_getElem? ht)
  have s1 : (S t).size ≤ 1025 := hts
  have e1 : (⟨#[40]⟩ : ByteArray) ++ S t = S (40 :: t) := L1.S_cat [40] t
  have e2 : S (40 :: t) ++ (⟨#[41]⟩ : ByteArray) = S (40 :: (t ++ [41])) := L1.S_cat (40 :: t) [41]
  have s2 : (S (40 :: t)).size ≤ 1026 := by show (40 :: t).length ≤ _; simp; omega
  by_cases hlv : lvl y.op < least
  · have hp : parT L T k least = 40 :: (t ++ [41]) := by unfold parT; rw [hn, if_pos hlv, htt]
    have i4 : (lvl y.op : Int) < (least : Int) := by omega
    rw [hp]
    clear x r1 r2 hy ht hc hn htt hts hp
    generalize y.op = O at *
    go_enter Tryz.func62, Tryz.ntmps62
    go_wp2_with (go_at_call 63; refine (step_any _ _).mono ?_; rintro e w1 ⟨rfl, rfl⟩)
    go_ret
    exact ⟨rfl, After.rfl⟩
  · have hp : parT L T k least = t := by unfold parT; rw [hn, if_neg hlv, htt]
    have i4 : ¬ (lvl y.op : Int) < (least : Int) := by omega
    rw [hp]
    clear x r1 r2 hy ht hc hn htt hts hp
    generalize y.op = O at *
    go_enter Tryz.func62, Tryz.ntmps62
    go_wp2_with (go_at_call 63; refine (step_any _ _).mono ?_; rintro e w1 ⟨rfl, rfl⟩)
    go_ret
    exact ⟨rfl, After.rfl⟩
section
variable {o : Oper} {a : Act} {w : World} {K : Act → World → Prop} {Q : Exit → Act → World → Prop}
/-- A call of a closure. -/
theorem wp_clo2 {f : Nat} {cap : Array Value} {ts : Array Nat} {x x0 x1 : Operand} {u0 u1 : Value} (ho : o.op = .call { callee := .value x, args := #[x0, x1], argTypes := ts }) (hx : a.eval x = .func (.func f) #[] cap) (hf : ∀ args W, (callFunc f args).run Tryz.prog W = .ok (.enter f args) W) (h0 : a.eval x0 = u0) (h1 : a.eval x1 = u1) (h : Calls Tryz.prog f (#[u0, u1] ++ cap) w fun e w' => ∃ v, e = .returned v ∧ K (a.put o.dst v) w') : Oper.wp Tryz.prog o a w K Q := by
  unfold Oper.wp execOp
  simp only [ho, resolve, hx, Deferred.ofValue, invoke, Sem.run_bind, Sem.run_pure, Result.andThen_ok, List.map_toArray, List.map_cons, List.map_nil, h0, h1, hf, Oper.upon]
  refine Calls.mono h ?_
  rintro e w' ⟨v, rfl, hk⟩
  exact hk
end
end Go.Proofs.YtlfcihanhfabmaaGreatDoor
