/-
  Two lists that are heard the same, read alone; what partitions heard, joined, in an array of eight rows.
-/
import Derived.Test.YtkjjjibglaffnaaRxH
import Derived.Test.YtkjjjibglaffnaaRxJ
import Derived.Maps.AppendAt
namespace Go.Proofs.Ytkjjjibglaffnaa
open Go.RowKit
set_option maxRecDepth 8000
/-- Things, one or many or none, are appended: where the new row lies. -/
theorem wp_appAt {α : Type} {E : Enc α} {o : Oper} {a : Act} {w : World} {K : Act → World → Prop} {Q : Exit → Act → World → Prop} {T t : TypeId} {z : Value} {bts : Nat} (hT : Try.prog.underlying T = some (.slice t)) (hinfo : (Try.prog.info? t).map (fun i => (i.zero, i.size, i.bytes)) = some (some z, E.k, bts)) (hz : z.cells.size = E.k) (s x : Operand) (ho : o.op = .call { callee := .builtin .append, args := #[s, x], argTypes := #[T, T] }) {B : Nat} {v : Value} {xs : List α} (hs : a.eval s = v) (hown : ORow E t w B v xs)
    {oa : Option Addr} {m c : Nat} {ys : List α} (hx : a.eval x = .slice oa m c) (hr : GRow E w oa m ys) (hn : oa = none → m = 0 ∧ c = 0) (hb : xs.length + m ≤ maxLen) (hb2 : (xs.length + m) * bts ≤ 140737488355328) (hbase : B ≤ w.heap.size)
    (h : ∀ v' w', ORow E t w' B v' (xs ++ ys) → But (fun k => v.ownBlock = some k) w w' → (∀ k, v'.ownBlock = some k → v.ownBlock = some k ∨ k = w.heap.size) → K (a.put o.dst v') w') : Oper.wp Try.prog o a w K Q := by
  obtain ⟨i0, hi, hz'⟩ := Option.map_eq_some_iff.1 hinfo
  simp only [Prod.mk.injEq] at hz'
  obtain ⟨hz0, hz1, hz2⟩ := hz'
  cases oa with
  | none =>
    obtain ⟨rfl, rfl⟩ := hn rfl
    have hys : ys = [] := List.length_eq_zero_iff.1 hr.1
    subst hys
    have hrun := run_append_owned_none (P := Try.prog) (w := w) B T o.type t i0 E.k hT hi v xs.length (E.flat xs) hown
    unfold Oper.wp
    simp [execOp, ho, resolve, invoke, builtin, hs, hx, hrun, Result.andThen]
    exact h v w (by rw [List.append_nil]; exact hown) But.rfl (fun k hk => .inl hk)
  | some ad =>
    have hl1 : (E.flat ys).length = m * E.k := by rw [E.flat_length, hr.1]
    obtain ⟨v', w', hrun, h1, h2, _, h4⟩ := run_append_own_at (P := Try.prog) w B T o.type t i0 z E.k bts hT hi hz0 hz1 hz2 hz E.pos v xs.length (E.flat xs) hown ad m c (E.flat ys) hl1 hr.news (E.flat_one _) hb hb2 hbase
    unfold Oper.wp execOp
    simp only [ho, resolve, invoke, builtin, Sem.run_bind, Sem.run_pure, Result.andThen_ok, List.map_toArray, List.map_cons, List.map_nil, hs, hx, hrun]
    rw [← E.flat_append] at h1
    have e : xs.length + m = (xs ++ ys).length := by rw [List.length_append, hr.1]
    rw [e] at h1
    refine h v' w' h1 (But.grown But.rfl h2 (fun k hk _ => hk)) (fun k hk => ?_)
    rcases h4 with h4 | h4
    · exact .inl (h4.symm.trans hk)
    · rw [hk] at h4
      exact .inr (Option.some.inj h4)
set_option maxHeartbeats 1000000 in
theorem heards_q {w : World} {a a' : Option Addr} {c c' : Nat} {xs : List He} (h1 : GRow heE w a xs.length xs) (h2 : GRow heE w a' xs.length xs) (hn : xs.length ≤ 17592186044416) : Calls Try.prog 17 #[.slice a xs.length c, .slice a' xs.length c'] w fun e w' => e = .returned (.bool true) ∧ ∃ m, w' = w.drewN m := by
  have HH := hideIt (And.intro h1 h2)
  have i1 : (xs.length : Int) ≤ 17592186044416 := by omega
  have hne : ((xs.length : Int) != (xs.length : Int)) = false := by simp
  clear h1 h2 hn
  go_enter Try.func17, Try.ntmps17
  go_wp2_with fail
  go_loopw [5] (fun iv wr => ∃ j : Nat, j ≤ xs.length ∧ iv = .int .i64 j ∧ ∃ m, wr = w.drewN m) (fun iv _ => xs.length - (intOf iv).toNat)
  case atStart => exact ⟨0, Nat.zero_le _, rfl, 0, rfl⟩
  case round =>
    obtain ⟨j, hj, rfl, m, rfl⟩ := hrel
    by_cases hjn : j < xs.length
    · have i2 : (j : Int) < (xs.length : Int) := by omega
      obtain ⟨b, off, x, rfl, hb, hx, c0, c1⟩ := he_at HH.out.1 hjn
      obtain ⟨b', off', x', rfl, hb', hx', d0, d1⟩ := he_at HH.out.2 hjn
      rw [hx] at hx'
      cases hx'
      have q1 : (x.v != x.v) = false := by simp
      have q2 : (x.is != x.is) = false := by simp
      have q3 : (x.v == x.v) = true := by simp
      have q4 : (x.is == x.is) = true := by simp
      clear hx
      go_wp2_with fail
      go_region
      go_wp2_with fail
      go_roundw
      case rel => exact ⟨j + 1, by omega, by go_num, _, rfl⟩
      case measure => simp [intOf]; omega
    · have i2 : ¬ (j : Int) < (xs.length : Int) := by omega
      go_wp2_with fail
      go_ret
      exact ⟨rfl, _, rfl⟩
abbrev haC (hv : Nat → Value) : Array Value := #[hv 0, hv 1, hv 2, hv 3, hv 4, hv 5, hv 6, hv 7]
theorem eight {p : Nat} (h : p < 8) : p = 0 ∨ p = 1 ∨ p = 2 ∨ p = 3 ∨ p = 4 ∨ p = 5 ∨ p = 6 ∨ p = 7 := by omega
theorem haC_at (hv : Nat → Value) {p : Nat} (h : p < 8) : (haC hv)[p]? = some (hv p) := by
  rcases eight h with rfl | rfl | rfl | rfl | rfl | rfl | rfl | rfl <;> rfl
theorem haC_set (hv : Nat → Value) {p : Nat} (h : p < 8) (v : Value) : (haC hv).setIfInBounds p v = haC (setf hv p v) := by
  rcases eight h with rfl | rfl | rfl | rfl | rfl | rfl | rfl | rfl <;> rfl
/-- Eight rows in an array; w0: the world ahead of the array. -/
structure Ha (w0 w : World) (g : Nat) (hv : Nat → Value) (H : Nat → List He) : Prop where
  at0 : w.heap[g]? = some (.cells (haC hv) 90 (0, 0))
  own : ∀ i, ORow heE 69 w w0.heap.size (hv i) (H i)
  ap : ∀ i j, i ≠ j → ∀ k, (hv i).ownBlock = some k → (hv j).ownBlock ≠ some k
  lg : w0.heap.size ≤ g
  aft : After w0 w
section
variable {w0 w w' : World} {g p : Nat} {hv : Nat → Value} {H : Nat → List He} {v : Value} {zs : List He}
theorem Ha.after (h : Ha w0 w g hv H) (a : After w w') : Ha w0 w' g hv H :=
  ⟨(a.block g (blk_lt h.at0) (fun t => t)).trans h.at0, fun i => own_after (h.own i) a, h.ap, h.lg, h.aft.trans a⟩
/-- Behind an append, ahead of its store. -/
def AirH (w0 : World) (g : Nat) (hv : Nat → Value) (H : Nat → List He) (p : Nat) (zs : List He) (v : Value) (w : World) : Prop :=
  ∃ w2, Ha w0 w2 g hv H ∧ ORow heE 69 w w0.heap.size v (H p ++ zs) ∧ But (fun k => (hv p).ownBlock = some k) w2 w ∧ ∀ k, v.ownBlock = some k → (hv p).ownBlock = some k ∨ k = w2.heap.size
theorem AirH.at1 (h : AirH w0 g hv H p zs v w) : w.heap[g]? = some (.cells (haC hv) 90 (0, 0)) := by
  obtain ⟨w2, h1, _, b, _⟩ := h
  exact (b.block g (blk_lt h1.at0) (own_farT (h1.own p) (by decide) h1.at0)).trans h1.at0
theorem AirH.land (h : AirH w0 g hv H p zs v w) (hp : p < 8) : Ha w0 (w.setCell ⟨g, p, none⟩ v) g (setf hv p v) (setf H p (H p ++ zs)) := by
  have ha := h.at1
  obtain ⟨w2, h1, h2, b, h3⟩ := h
  have bs := but_one w g p v
  refine ⟨by rw [← haC_set hv hp v]; exact blk_put ha p v, fun i => ?_, fun i j hij k hi hj => ?_, h1.lg, (h1.aft.then b (fun k hk e => ?_)).then bs (fun k hk e => ?_)⟩
  · by_cases e : i = p
    · rw [e, setf_at, setf_at]
      exact own_but h2 bs (fun k hk e => own_farT h2 (by decide) ha (by rw [hk]; exact congrArg some e))
    · rw [setf_ne _ _ e, setf_ne _ _ e]
      have o1 := own_but (h1.own i) b (fun k hk e2 => h1.ap i p e k hk e2)
      exact own_but o1 bs (fun k hk e => own_farT o1 (by decide) ha (by rw [hk]; exact congrArg some e))
  · by_cases e1 : i = p
    · rw [e1, setf_at] at hi
      rw [setf_ne _ _ (fun e => hij (e1.trans e.symm))] at hj
      rcases h3 k hi with h4 | h4
      · exact h1.ap p j (fun e => hij (e1.trans e)) k h4 hj
      · have := ((h1.own j).lt k hj).2; omega
    · rw [setf_ne _ _ e1] at hi
      by_cases e2 : j = p
      · rw [e2, setf_at] at hj
        rcases h3 k hj with h4 | h4
        · exact h1.ap i p e1 k hi h4
        · have := ((h1.own i).lt k hi).2; omega
      · rw [setf_ne _ _ e2] at hj
        exact h1.ap i j hij k hi hj
  · have := ((h1.own p).lt k e).1; omega
  · have := h1.lg; have e : k = g := e; omega
end
/-- An append and a store, and two loads that the append waits for. -/
structure ChA (a s l m : Nat) (P0 : World → Prop) (P3 : Value → World → Prop) (P4 : World → Prop) (L : Nat → Bool) (u : Nat → Value) (w : World) : Prop where
  i3 : L s = true → L a = true
  i4 : L a = true → L l = true
  i5 : L a = true → L m = true
  p0 : L a = false → P0 w
  p3 : L a = true → L s = false → P3 (u a) w
  p4 : L s = true → P4 w
section
variable {a s l m : Nat} {P0 : World → Prop} {P3 : Value → World → Prop} {P4 : World → Prop} {L : Nat → Bool} {u : Nat → Value} {w w' : World}
theorem ChA.start (h : P0 w) : ChA a s l m P0 P3 P4 (fun _ => false) u w := ⟨fun h => (by cases h), fun h => (by cases h), fun h => (by cases h), fun _ => h, fun h => (by cases h), fun h => (by cases h)⟩
theorem ChA.keep {T : Tab} {k : Nat} {v : Value} (h3 : a ≠ k) (h4 : s ≠ k) (d3 : T.D a ≠ T.D k) (L : Nat → Bool) (u : Nat → Value) (w : World) (x : ChA a s l m P0 P3 P4 L u w) : ChA a s l m P0 P3 P4 (more L k) (T.set k v u) w := by
  refine ⟨?_, ?_, ?_, ?_, ?_, ?_⟩
  · rw [more_ne L h4, more_ne L h3]; exact x.i3
  · rw [more_ne L h3]; intro h; exact more_of (x.i4 h)
  · rw [more_ne L h3]; intro h; exact more_of (x.i5 h)
  · rw [more_ne L h3]; exact x.p0
  · rw [more_ne L h3, more_ne L h4, show T.set k v u a = u a from if_neg d3]; exact x.p3
  · rw [more_ne L h4]; exact x.p4
theorem ChA.app {T : Tab} {v : Value} (h4 : s ≠ a) (x : ChA a s l m P0 P3 P4 L u w) (hl : L l = true) (hm : L m = true) (h : L a = false) (p : P3 v w') : ChA a s l m P0 P3 P4 (more L a) (T.set a v u) w' := by
  have hs := fls x.i3 h
  refine ⟨?_, fun _ => more_of hl, fun _ => more_of hm, ?_, fun _ _ => ?_, ?_⟩
  · rw [more_ne L h4, hs]; intro h; cases h
  · rw [more_self]; intro h; cases h
  · rw [show T.set a v u a = v from if_pos rfl]; exact p
  · rw [more_ne L h4, hs]; intro h; cases h
theorem ChA.store (h3 : a ≠ s) (x : ChA a s l m P0 P3 P4 L u w) (ha : L a = true) (p : P4 w') : ChA a s l m P0 P3 P4 (more L s) u w' := by
  refine ⟨fun _ => more_of ha, ?_, ?_, ?_, ?_, fun _ => p⟩
  · rw [more_ne L h3]; intro h; exact more_of (x.i4 h)
  · rw [more_ne L h3]; intro h; exact more_of (x.i5 h)
  · rw [more_ne L h3, ha]; intro h; cases h
  · rw [more_self]; intro _ h; cases h
end
theorem indexH (w : World) (g : Nat) {p : Int} {i : Nat} (hi : p = (i : Int)) (h : i < 8) : (Instr.indexAt 90 (.pointer (some ⟨g, 0, none⟩)) (.int .i64 p)).run Try.prog w = .ok (.pointer (some ⟨g, i, none⟩)) w := by
  subst hi
  have h2 : (i : Int) < 8 := by omega
  simp [go_sem, h2]
theorem indexTw (w : World) (b off n c : Nat) {k : Nat} (hk : (k : Int) < (n : Int)) : (Instr.indexAt 87 (.slice (some ⟨b, off, none⟩) n c) (.int .i64 (k : Int))).run Try.prog w = .ok (.pointer (some ⟨b, off + k * 5, none⟩)) w := by
  have h : k < n := by omega
  simp [go_sem, Instr.indexAt, h]
theorem aw_at {w : World} {a : Option Addr} {n : Nat} {xs : List Aw} (h : GRow awE w a n xs) {i : Nat} (hi : i < n) : ∃ b off x, a = some ⟨b, off, none⟩ ∧ b < w.heap.size ∧ xs[i]? = some x ∧ w.cell? ⟨b, off + i * 5, none⟩ = some (.int .i64 x.p) ∧ w.cell? ⟨b, off + i * 5 + 1, none⟩ = some (.int .i64 x.t.u) ∧ w.cell? ⟨b, off + i * 5 + 2, none⟩ = some (.bool x.t.ov) ∧ w.cell? ⟨b, off + i * 5 + 3, none⟩ = some (.bool x.t.fa) ∧ w.cell? ⟨b, off + i * 5 + 4, none⟩ = some (.slice x.a x.h.length x.c) := by
  obtain ⟨b, off, x, e, hb, hx, h1⟩ := h.2 i hi
  exact ⟨b, off, x, e, hb, hx, h1 0 _ rfl, h1 1 _ rfl, h1 2 _ rfl, h1 3 _ rfl, h1 4 _ rfl⟩
theorem pk_at {w : World} {a : Option Addr} {n : Nat} {xs : List (Option Tk)} (h : GRow pkE w a n xs) {i : Nat} (hi : i < n) : ∃ b off x, a = some ⟨b, off, none⟩ ∧ b < w.heap.size ∧ xs[i]? = some x ∧ w.cell? ⟨b, off + i, none⟩ = some (ptV x) := by
  obtain ⟨b, off, x, e, hb, hx, h1⟩ := h.2 i hi
  have := h1 0 _ rfl
  rw [show pkE.k = 1 from rfl, Nat.mul_one, Nat.add_zero] at this
  exact ⟨b, off, x, e, hb, hx, this⟩
/-- Joined, one turn more. -/
theorem joinH_snoc : ∀ (l : List Ad) (x : Ad) (H : Nat → List He), joinH (l ++ [x]) H = setf (joinH l H) x.a.p.toNat (joinH l H x.a.p.toNat ++ x.h)
  | [], _, _ => rfl
  | _y :: r, x, _H => joinH_snoc r x _
theorem joinH_take {l : List Ad} {j : Nat} {x : Ad} (h : l[j]? = some x) (H : Nat → List He) : joinH (l.take (j + 1)) H = setf (joinH (l.take j) H) x.a.p.toNat (joinH (l.take j) H x.a.p.toNat ++ x.h) := by
  obtain ⟨hj, e⟩ := List.getElem?_eq_some_iff.1 h
  rw [List.take_succ_eq_append_getElem hj, e, joinH_snoc]
end Go.Proofs.Ytkjjjibglaffnaa
