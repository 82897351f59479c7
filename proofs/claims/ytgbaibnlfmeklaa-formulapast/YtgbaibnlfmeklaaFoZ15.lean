/-
  A node more at the front: what a formula tells is the same. Rows of readings that grow.
-/
import Derived.Test.YtgbaibnlfmeklaaFoQ
import Derived.Test.YtgbaibnlfmeklaaSloB
import Derived.Test.YtgbaibnlfmeklaaSloQ
namespace Go.Proofs.Ytgbaibnlfmeklaa
open Go.RowKit
set_option maxRecDepth 8000
/-- A node, with one more ahead of it. -/
def mv (x : Nd) : Nd := ⟨x.op, if 6 ≤ x.op then x.a + 1 else x.a, if x.op = 7 ∨ x.op = 8 ∨ x.op = 12 then x.b + 1 else x.b, x.n⟩
theorem okN_mv {x : Nd} {i n : Int} (h : okN x i n = true) : okN (mv x) (i + 1) n = true := by
  have ho := okN_op h
  obtain ⟨op, a, b, m⟩ := x
  simp only at ho
  rcases (by omega : op = 0 ∨ op = 1 ∨ op = 2 ∨ op = 3 ∨ op = 4 ∨ op = 5 ∨ op = 6 ∨ op = 7 ∨ op = 8 ∨ op = 9 ∨ op = 10 ∨ op = 11 ∨ op = 12) with rfl | rfl | rfl | rfl | rfl | rfl | rfl | rfl | rfl | rfl | rfl | rfl | rfl
  all_goals
    simp [okN, idx] at h
    simp [mv, okN, idx]
    omega
theorem okFrom_mv {n : Int} : ∀ {L : List Nd} {k : Nat}, okFrom n k L = true → okFrom n (k + 1) (L.map mv) = true
  | [], _, _ => rfl
  | x :: r, k, h => by
    simp only [okFrom, Bool.and_eq_true, List.map_cons] at h ⊢
    refine ⟨?_, okFrom_mv h.2⟩
    have := okN_mv h.1
    rw [show ((k + 1 : Nat) : Int) = (k : Int) + 1 by omega]
    exact this
theorem okAll_mv {L : List Nd} {n : Int} (h : okAll L n = true) : okAll (Nd.none :: L.map mv) n = true := by
  unfold okAll okFrom
  rw [Bool.and_eq_true]
  exact ⟨by simp [okN, Nd.none], okFrom_mv h⟩
theorem chk_mv {L : List Nd} {n : Int} (h : chk L n = 0) (hl : L.length + 1 ≤ 32) : chk (Nd.none :: L.map mv) n = 0 := by
  obtain ⟨c1, c2, c3, c4, c5⟩ := chk_zero h
  unfold chk
  rw [List.length_cons, List.length_map, if_neg (by omega), if_neg (by omega), if_neg (by omega), if_pos (okAll_mv c5)]
theorem stepv_mv {x : Nd} {i : Nat} {n : Int} (h : okN x (i : Int) n = true) {C : List Ch} {T : List (List Rd)} {r r' : Nat → Nat → Bool} {t : Nat} (hr : ∀ j s, j < i → r (j + 1) s = r' j s) : stepv (mv x) C T r t = stepv x C T r' t := by
  have ho := okN_op h
  obtain ⟨op, a, b, m⟩ := x
  simp only at ho
  have e1 : ∀ {a : Int}, 0 ≤ a → (a + 1).toNat = a.toNat + 1 := fun h => by omega
  rcases (by omega : op = 0 ∨ (1 ≤ op ∧ op ≤ 5) ∨ op = 6 ∨ op = 7 ∨ op = 8 ∨ op = 9 ∨ op = 10 ∨ op = 11 ∨ op = 12) with rfl | h5 | rfl | rfl | rfl | rfl | rfl | rfl | rfl
  · simp [stepv, mv]
  · unfold mv
    simp only
    rw [if_neg (by omega), if_neg (by omega)]
    unfold stepv
    simp only
    rw [if_neg (by omega), if_neg (by omega), if_neg (by omega), if_neg (by omega), if_neg (by omega), if_neg (by omega), if_neg (by omega), if_neg (by omega)]
    rw [if_neg (by omega), if_neg (by omega), if_neg (by omega), if_neg (by omega), if_neg (by omega), if_neg (by omega), if_neg (by omega), if_neg (by omega)]
  · simp [okN, idx] at h
    simp [mv, stepv, e1 h.1.1.1, hr a.toNat _ (by omega)]
  · simp [okN, idx] at h
    simp [mv, stepv, e1 h.1.1.1, e1 h.1.2.1, hr a.toNat _ (by omega), hr b.toNat _ (by omega)]
  · simp [okN, idx] at h
    simp [mv, stepv, e1 h.1.1.1, e1 h.1.2.1, hr a.toNat _ (by omega), hr b.toNat _ (by omega)]
  · simp [okN, idx] at h
    simp [mv, stepv, e1 h.1.1.1, hr a.toNat _ (by omega)]
  · simp [okN, idx] at h
    simp [mv, stepv, e1 h.1.1.1.1]
    exact anyW_congr (fun s _ => hr a.toNat s (by omega))
  · simp [okN, idx] at h
    simp [mv, stepv, e1 h.1.1.1.1]
    exact anyW_congr (fun s _ => by rw [hr a.toNat s (by omega)])
  · simp [okN, idx] at h
    simp [mv, stepv, e1 h.1.1.1, e1 h.1.2.1]
    exact sinc_congr (fun s _ => hr a.toNat s (by omega)) (fun s _ => hr b.toNat s (by omega))
theorem val_mv {L : List Nd} {n : Int} (h : okAll L n = true) (C : List Ch) (T : List (List Rd)) : ∀ (i t : Nat), i < L.length → val (Nd.none :: L.map mv) C T (i + 1) t = val L C T i t := by
  intro i
  induction i using Nat.strongRecOn with
  | ind i ih =>
    intro t hi
    have hx : L[i]? = some L[i] := List.getElem?_eq_getElem hi
    rw [val_eq (okAll_mv h) C T (i := i + 1) (x := mv L[i]) (by simp [hi]), val_eq h C T hx]
    exact stepv_mv (okAll_at h hx) (fun j s hj => ih j hj s (by omega))
theorem bitsOf_mv {L : List Nd} {C : List Ch} {T : List (List Rd)} (h : chk L (C.length : Int) = 0) : bitsOf (val (Nd.none :: L.map mv) C T ((Nd.none :: L.map mv).length - 1)) T.length = bitsOf (val L C T (L.length - 1)) T.length := by
  obtain ⟨c1, c2, c3, c4, c5⟩ := chk_zero h
  refine bitsOf_congr (fun t _ => ?_)
  have := val_mv c5 C T (L.length - 1) t (by omega)
  rw [show L.length - 1 + 1 = L.length by omega] at this
  rw [← this]
  simp
theorem okN_ab {x : Nd} {i n : Int} (h : okN x i n = true) : (6 ≤ x.op → 0 ≤ x.a ∧ x.a < i) ∧ (x.op = 7 ∨ x.op = 8 ∨ x.op = 12 → 0 ≤ x.b ∧ x.b < i) := by
  have ho := okN_op h
  obtain ⟨op, a, b, m⟩ := x
  simp only at ho
  rcases (by omega : op = 0 ∨ op = 1 ∨ op = 2 ∨ op = 3 ∨ op = 4 ∨ op = 5 ∨ op = 6 ∨ op = 7 ∨ op = 8 ∨ op = 9 ∨ op = 10 ∨ op = 11 ∨ op = 12) with rfl | rfl | rfl | rfl | rfl | rfl | rfl | rfl | rfl | rfl | rfl | rfl | rfl
  all_goals
    simp [okN, idx] at h
    simp
    try omega
theorem bitsOf_extract (f : Nat → Bool) : ∀ (n k : Nat), k ≤ n → (bitsOf f n).extract 0 k = bitsOf f k
  | 0, k, h => by
    obtain rfl : k = 0 := by omega
    rfl
  | n + 1, k, h => by
    rcases Nat.lt_or_ge n k with h' | h'
    · obtain rfl : k = n + 1 := by omega
      have := ByteArray.extract_zero_size (b := bitsOf f (n + 1))
      rw [bitsOf_size] at this
      exact this
    · have ih := bitsOf_extract f n k h'
      rw [← ih]
      show (bitsOf f n ++ _).extract 0 k = _
      have hs := bitsOf_size f n
      rw [ByteArray.extract_append, hs, show k - n = 0 by omega, show 0 - n = 0 by omega, ByteArray.extract_same, ByteArray.append_empty]
theorem rdsOf_append (X Y : List Tr) : rdsOf (X ++ Y) = rdsOf X ++ rdsOf Y := by simp [rdsOf]
/-- What a longer past tells up to where it leaves the other. -/
theorem long_text {L : List Nd} {C : List Ch} {X X2 Y : List Tr} {w V : World} {al : Option Addr} {cl : Nat} {ac : Option Addr} {cc : Nat} {aT aT2 av : Option Addr} {cv n : Nat} {S : ByteArray} (h1 : NRow w al L.length L) (h2 : CRow w ac C.length C) (h3 : TRow w aT X.length X) (h4 : TRow w aT2 X2.length X2)
    (hS : bitsOf (val L C (rdsOf X) (L.length - 1)) (rdsOf X).length = S) (hc : chk L (C.length : Int) = 0) (hr : ∀ l ∈ rdsOf X, l.length = C.length) (a : After w V) (hY : ∀ y ∈ Y, y ∈ X2 ∧ y.n = C.length) (hn : n ≤ X.length) (hl : Y.length ≤ 20) (hX : X.length ≤ 200) (hg : GRow trE V av (X.take n ++ Y).length (X.take n ++ Y)) :
    ∃ S1 : ByteArray, S1.size = n + Y.length ∧ S1.extract 0 n = S.extract 0 n ∧ Calls Try.prog 22 #[.agg #[.slice ac C.length cc, .slice av (X.take n ++ Y).length cv], .slice al L.length cl] V fun e w' => e = .returned (.string S1) ∧ After V w' := by
  have sY : (X.take n ++ Y).length = n + Y.length := by simp; omega
  have hin : ∀ x ∈ X.take n ++ Y, x.In V := fun x hx => by
    rcases List.mem_append.1 hx with h | h
    · exact (h3.2 x (List.mem_of_mem_take h)).after a
    · exact (h4.2 x (hY x h).1).after a
  have hall : ∀ l ∈ rdsOf (X.take n ++ Y), l.length = C.length := fun l hl => by
    rw [rdsOf_append] at hl
    rcases List.mem_append.1 hl with h | h
    · obtain ⟨x, hx, rfl⟩ := List.mem_map.1 h
      exact hr _ (List.mem_map.2 ⟨x, List.mem_of_mem_take hx, rfl⟩)
    · obtain ⟨x, hx, rfl⟩ := List.mem_map.1 h
      rw [← (hY x hx).2]
      exact (h4.2 x (hY x hx).1).1.1
  have t := text_past (L := L) (C := C) (T := rdsOf (X.take n ++ Y)) (v := .agg #[.slice ac C.length cc, .slice av (X.take n ++ Y).length cv]) (w := V) ⟨ac, cc, av, cv, X.take n ++ Y, by rw [rdsOf_length], h2.after a, by rw [rdsOf_length]; exact ⟨hg, hin⟩, rfl⟩ al cl (h1.after a) (by rw [rdsOf_length, sY]; omega) hc hall
  refine ⟨_, ?_, ?_, t⟩
  · rw [bitsOf_size, rdsOf_length, sY]
  · rw [← hS, bitsOf_extract _ _ _ (by rw [rdsOf_length, sY]; omega), bitsOf_extract _ _ _ (by rw [rdsOf_length]; omega)]
    refine bitsOf_congr (fun s hs => val_past L C _ (fun q hq => ?_))
    rw [rdsOf_append]
    have e : (rdsOf (X.take n) ++ rdsOf Y)[q]? = (rdsOf X)[q]? := by
      rw [List.getElem?_append_left (by rw [rdsOf_length]; simp; omega)]
      unfold rdsOf
      rw [List.getElem?_map, List.getElem?_map, List.getElem?_take_of_lt (by omega)]
    simp only [List.getD_eq_getElem?_getD, e]
/-- A new row of one slice. -/
def isNew (H : Nat) (x : Tr) : Wd := fun v w => ∃ g, v = .slice (some ⟨g, 0, none⟩) 1 1 ∧ H ≤ g ∧ w.heap[g]? = some (.cells #[.slice x.a x.n x.d] 51 (0, 0))
theorem isNew_stB {S : Nat → Prop} {H : Nat} (hS : ∀ k, S k → k < H) (x : Tr) : (isNew H x).StableB S := fun _ _ _ h b => by
  obtain ⟨g, e, hg, hb⟩ := h
  exact ⟨g, e, hg, (b.block g (blk_lt hb) (fun s => by have := hS g s; omega)).trans hb⟩
theorem isNew_st (H : Nat) (x : Tr) : (isNew H x).Stable := fun _ _ _ h b => by
  obtain ⟨g, e, hg, hb⟩ := h
  exact ⟨g, e, hg, (b.block g (blk_lt hb) (fun t => t)).trans hb⟩
def isOwn (B : Nat) (X : List Tr) : Wd := fun v w => ORow trE 51 w B v X
theorem isOwn_st (B : Nat) (X : List Tr) : (isOwn B X).Stable := fun _ _ _ h b => own_after h b
theorem isV_stB (S : Nat → Prop) (u : Value) : (isV u).StableB S := fun _ _ _ h _ => h
theorem stableB_all {S : Nat → Prop} {A : Nat} {Ts : List Wd} (h : ∀ i P, Ts[i]? = some P → i ≠ A → Wd.StableB S P) : ∀ i, i ≠ A → (wdAt Ts i).StableB S := by
  intro i hi
  unfold wdAt
  rcases hq : Ts[i]? with _ | P
  · simp [List.getD, hq]
    exact fun _ _ _ _ _ => trivial
  · simp [List.getD, hq]
    exact h i P hq hi
theorem Try.infoDs : (Try.prog.info? 51).map (fun i => (i.zero, i.size, i.bytes)) = some (some (.slice none 0 0), 1, 24) := by kernel_rfl
theorem newOf (x : Tr) (H : Nat) (w : World) (hH : H ≤ w.heap.size) : ∃ v w', (Instr.buildSlice 42 1 #[(0, .slice x.a x.n x.d)]).run Try.prog w = .ok v w' ∧ isNew H x v w' ∧ After w w' := by
  refine ⟨.slice (some ⟨w.heap.size, 0, none⟩) 1 1, w.alloc (.cells #[.slice x.a x.n x.d] 51), ?_, ⟨_, rfl, hH, heap_alloc_new w _⟩, After.rfl.alloc _⟩
  simp [go_sem]
theorem sliceT (w : World) (a : Option Addr) (n c k : Nat) (hk : (k : Int) ≤ (c : Int)) : (Instr.sliceAt 42 (.slice a n c) Option.none (some (.int .i64 (k : Int))) Option.none).run Try.prog w = .ok (.slice a k c) w := by
  simp [go_sem, hk]
theorem ltI_no {n m : Int} (h : ¬ n < m) (x y : Operand) (w : World) : (do eqGuard .lss 3 x y (.int .i64 n) (.int .i64 m); binOp .lss 3 (.int .i64 n) (.int .i64 m) : Sem Value).run Try.prog w = .ok (.bool false) w := by
  simp [eqGuard, go_sem]; omega
theorem sliceS {s r : ByteArray} {k : Nat} (e : s.extract 0 k = r) (hk : k ≤ s.size) (w : World) : (Instr.sliceAt 9 (.string s) Option.none (some (.int .i64 (k : Int))) Option.none).run Try.prog w = .ok (.string r) w := by
  subst e
  have h : (k : Int) ≤ (s.size : Int) := by omega
  simp [go_sem, h]
section
variable {o : Oper} {a : Act} {w w' : World} {K : Act → World → Prop} {Q : Exit → Act → World → Prop}
theorem wp_sliceTo {t : Nat} {x y : Operand} {p q v : Value} (ho : o.op = .slice t x Option.none (some y) Option.none) (hx : a.eval x = p) (hy : a.eval y = q) (hr : (Instr.sliceAt t p Option.none (some q) Option.none).run Try.prog w = .ok v w) (h : K (a.put o.dst v) w) : Oper.wp Try.prog o a w K Q := by
  refine wp_val (r := Instr.sliceAt t p Option.none (some q) Option.none) ?_ hr h
  unfold execOp
  simp [ho, hx, hy]
/-- Rows of readings that are appended to rows of one's own. -/
theorem wp_app (s x : Operand) (ho : o.op = .call { callee := .builtin .append, args := #[s, x], argTypes := #[42, 42] }) {B : Nat} {v : Value} {xs : List Tr} (hs : a.eval s = v) (hown : ORow trE 51 w B v xs)
    {ad : Addr} {m c : Nat} {ys : List Tr} (hx : a.eval x = .slice (some ad) m c) (hr : GRow trE w (some ad) m ys) (hb : xs.length + m ≤ 1000) (hbase : B ≤ w.heap.size)
    (h : ∀ v' w', ORow trE 51 w' B v' (xs ++ ys) → But (fun k => v.ownBlock = some k) w w' → K (a.put o.dst v') w') : Oper.wp Try.prog o a w K Q := by
  obtain ⟨i0, hi, hz'⟩ := Option.map_eq_some_iff.1 Try.infoDs
  simp only [Prod.mk.injEq] at hz'
  obtain ⟨hz0, hz1, hz2⟩ := hz'
  have hl1 : (trE.flat ys).length = m * trE.k := by rw [trE.flat_length, hr.1]
  refine wp_append_own w s x 42 ho B 51 i0 (.slice Option.none 0 0) 1 24 Try.underlying42 hi hz0 hz1 hz2 rfl (by decide) v xs.length (trE.flat xs) hs hown ad m c (trE.flat ys) hx hl1 hr.news (trE.flat_one _) (by unfold maxLen; omega) (by omega) hbase ?_
  intro v' w' h1 h2 _
  rw [← trE.flat_append] at h1
  have e : xs.length + m = (xs ++ ys).length := by rw [List.length_append, hr.1]
  rw [e] at h1
  exact h v' w' h1 (But.grown But.rfl h2 (fun k hk _ => hk))
/-- A slice of rows that is stored. -/
theorem wp_storeT {x y : Operand} {g j : Nat} {v : Value} {q : Value} (ho : o.op = .store 42 x y) (hd : o.dst = Option.none) (hx : a.eval x = .pointer (some ⟨g, j, Option.none⟩)) (hy : a.eval y = v) (hv : ∃ b n c, v = .slice b n c) (hc : w.cell? ⟨g, j, Option.none⟩ = some q) (hf : w.frozen? ⟨g, j, Option.none⟩ = false) (h : K a (w.setCell ⟨g, j, Option.none⟩ v)) : Oper.wp Try.prog o a w K Q := by
  obtain ⟨b, n, c, rfl⟩ := hv
  have hr : (Instr.storeAt 42 (.pointer (some ⟨g, j, Option.none⟩)) (.slice b n c)).run Try.prog w = .ok () (w.setCell ⟨g, j, Option.none⟩ (.slice b n c)) := by simp [go_sem, hc, hf]
  unfold Oper.wp execOp
  simp only [ho]
  rw [hx, hy]
  simp [hr, Oper.upon]
  rw [hd]
  exact h
end
end Go.Proofs.Ytgbaibnlfmeklaa
