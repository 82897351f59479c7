/-
  A filter at work, in memory; it takes a number.
-/
import Derived.Test.YtgapnimicaopcaaFiC
namespace Go.Proofs.Ytgapnimicaopcaa
open Go.RowKit
set_option maxRecDepth 8000
/-- A filter at work lies at p, its lapse at q, what is inside is v, of the blocks of S. -/
structure TkX (w : World) (p q : Nat) (v : Value) (S : Nat → Prop) (c : Cf) (s : Ts) : Prop where
  at0 : w.heap[p]? = some (.cells #[.int .i64 c.k, .int .i64 c.n, .int .i64 c.st, v, Ptr q, .int .i64 s.value, .bool s.known, .int .i64 s.next] 58 (0, 0))
  lap : L13.LpX w q c.st s.lp
  ins : Ins w c.k c.n S s.ins v
  ok : c.Ok
  ne : p ≠ q
  np : ¬ S p
  nq : ¬ S q
  lo : 0 ≤ s.next
  hi : s.next ≤ 2147483648
theorem TkX.lt {w : World} {p q : Nat} {v : Value} {S : Nat → Prop} {c : Cf} {s : Ts} (x : TkX w p q v S c s) : p < w.heap.size := blk_lt x.at0
theorem TkX.but {T : Nat → Prop} {w w' : World} {p q : Nat} {v : Value} {S : Nat → Prop} {c : Cf} {s : Ts} (x : TkX w p q v S c s) (b : But T w w') (hp : ¬ T p) (hq : ¬ T q) (hs : ∀ i, S i → ¬ T i) : TkX w' p q v S c s :=
  { x with at0 := (b.block p (blk_lt x.at0) hp).trans x.at0, lap := x.lap.but b hq, ins := x.ins.but b hs }
theorem TkX.after {w w' : World} {p q : Nat} {v : Value} {S : Nat → Prop} {c : Cf} {s : Ts} (x : TkX w p q v S c s) (a : After w w') : TkX w' p q v S c s := x.but a (fun t => t) (fun t => t) (fun _ _ t => t)
/-- What a task may store into, but for its lapse. -/
def Tw (p : Nat) (S : Nat → Prop) : Nat → Prop := fun i => i = p ∨ S i
theorem TkX.put {w w1 : World} {p q : Nat} {v : Value} {S S' : Nat → Prop} {c : Cf} {s : Ts} {ins' : Si} (x : TkX w p q v S c s) (b : But S w w1) (i1 : Ins w1 c.k c.n S' ins' v) (hS : ∀ i, S' i → S i ∨ w.heap.size ≤ i) (val : Int) (kn : Bool) :
    TkX ((w1.setCell ⟨p, 5, none⟩ (.int .i64 val)).setCell ⟨p, 6, none⟩ (.bool kn)) p q v S' c ⟨ins', s.lp, val, kn, s.next⟩ ∧ But (Tw p S) w ((w1.setCell ⟨p, 5, none⟩ (.int .i64 val)).setCell ⟨p, 6, none⟩ (.bool kn)) := by
  have h1 := (b.block p x.lt x.np).trans x.at0
  have np' : ¬ S' p := fun h => by
    rcases hS p h with h | h
    · exact x.np h
    · have := x.lt; omega
  have nq' : ¬ S' q := fun h => by
    rcases hS q h with h | h
    · exact x.nq h
    · have := x.lap.lt; omega
  have b2 : But (One p) w1 ((w1.setCell ⟨p, 5, none⟩ (.int .i64 val)).setCell ⟨p, 6, none⟩ (.bool kn)) := (but_one w1 p 5 _).trans (but_one _ p 6 _)
  refine ⟨{ at0 := ?_, lap := (x.lap.but b x.nq).but b2 (fun e => x.ne e.symm), ins := i1.but b2 (fun i hi e => by cases e; exact np' hi), ok := x.ok, ne := x.ne, np := np', nq := nq', lo := x.lo, hi := x.hi }, ?_⟩
  · have h2 := blk_put (blk_put h1 5 (.int .i64 val)) 6 (.bool kn)
    exact h2
  · exact (b.mono (fun i _ h => .inr h)).then b2 (fun i _ h => .inl h)
theorem Try.notPulse0 (v : Value) (w : World) : (Instr.typeAssert (.iface 80 v) 55 92 true).run Try.prog w = .ok (.tuple #[.pointer none, .bool false]) w := by kernel_rfl
theorem Try.notPulse1 (v : Value) (w : World) : (Instr.typeAssert (.iface 83 v) 55 92 true).run Try.prog w = .ok (.tuple #[.pointer none, .bool false]) w := by kernel_rfl
theorem Try.notPulse2 (v : Value) (w : World) : (Instr.typeAssert (.iface 86 v) 55 92 true).run Try.prog w = .ok (.tuple #[.pointer none, .bool false]) w := by kernel_rfl
theorem Try.notPulse3 (v : Value) (w : World) : (Instr.typeAssert (.iface 89 v) 55 92 true).run Try.prog w = .ok (.tuple #[.pointer none, .bool false]) w := by kernel_rfl
theorem Try.aPulse (v : Value) (w : World) : (Instr.typeAssert (.iface 92 v) 55 92 true).run Try.prog w = .ok (.tuple #[v, .bool true]) w := by kernel_rfl
theorem Try.push0 (v : Value) (w : World) : (method 259 80 v "Push").run Try.prog w = .ok (71, v) w := by kernel_rfl
theorem Try.push1 (g : Nat) (w : World) : (method 259 83 (Ptr g) "Push").run Try.prog w = .ok (72, Ptr g) w := by kernel_rfl
theorem Try.push2 (g : Nat) (w : World) : (method 259 86 (Ptr g) "Push").run Try.prog w = .ok (96, Ptr g) w := by kernel_rfl
theorem Try.push3 (g : Nat) (w : World) : (method 259 89 (Ptr g) "Push").run Try.prog w = .ok (100, Ptr g) w := by kernel_rfl
theorem mid_push (n : Nat) (hn : 0 < n) (l : List Int) (y : Int) : L9.mpush n (L9.lastN n l) (L9.clampZ y) = lastN n (l ++ [clampZ y]) := (lastN_push hn l (clampZ y)).symm
/-- What a task's call leaves behind. -/
def Took (w : World) (p q : Nat) (v : Value) (S : Nat → Prop) (c : Cf) (s : Ts) (w' : World) : Prop := ∃ S', TkX w' p q v S' c s ∧ (∀ i, S' i → S i ∨ w.heap.size ≤ i) ∧ But (Tw p S) w w'
/-- Push into what is inside, of a number: the answer, and what is inside then. -/
def Pushed (w : World) (v : Value) (k n : Nat) (S : Nat → Prop) (s' : Si) (w1 : World) : Prop := But S w w1 ∧ ∃ S', Ins w1 k n S' s' v ∧ (∀ i, S' i → S i ∨ w.heap.size ≤ i)
theorem take_of {w : World} {p q T f : Nat} {u : Value} {S : Nat → Prop} {c : Cf} {s : Ts} (x : TkX w p q (.iface T u) S c s) (t y R : Int)
    (hta : ∀ w, (Instr.typeAssert (.iface T u) 55 92 true).run Try.prog w = .ok (.tuple #[.pointer none, .bool false]) w)
    (hme : ∀ w, (method 259 T u "Push").run Try.prog w = .ok (f, u) w)
    (hf : ∀ args W, (callFunc f args).run Try.prog W = .ok (.enter f args) W)
    (h : Calls Try.prog f #[u, .int .i64 y] w fun e w1 => e = .returned (.tuple #[.int .i64 R, .int .i64 0]) ∧ Pushed w (.iface T u) c.k c.n S (s.ins.push c.k c.n t y) w1)
    (hv : s.ins.val c.k c.n t y = R) (hh : s.ins.has c.k c.n t y = true) :
    Calls Try.prog 44 #[Ptr p, .int .i64 t, .int .i64 y] w fun e w' => e = .returned (.tuple #[]) ∧ Took w p q (.iface T u) S c (s.take c t y) w' := by
  have H := hideIt h
  have HE : Hid (s.take c t y = ⟨s.ins.push c.k c.n t y, s.lp, R, true, s.next⟩) := by unfold Ts.take; rw [hv, hh]; exact rfl
  clear h hv hh
  generalize s.take c t y = s' at *
  generalize s.ins.push c.k c.n t y = i' at *
  have h3 := blk_cell x.at0 (i := 3) rfl
  have HX := hideIt x
  clear x
  go_enter Try.func44, Try.ntmps44
  go_wp2_with fail
  refine H.out.mono ?_
  rintro e w1 ⟨rfl, hx1⟩
  have h1 := (hx1.1.block p HX.out.lt HX.out.np).trans HX.out.at0
  have c5 := blk_cell h1 (i := 5) rfl
  have c6 := blk_cell h1 (i := 6) rfl
  have s5 := blk_soft h1 5
  have s6 := blk_soft h1 6
  have HY := hideIt hx1
  clear h1 hx1 h3
  go_wp2_with fail
  obtain ⟨b1, S', i1, hS⟩ := HY.out
  have hr := HX.out.put b1 i1 hS R true
  exact bodyPost_end (v := .tuple #[]) (by simp [results, Try.results44, go_sem]) rfl ⟨rfl, S', HE.out.symm ▸ hr.1, hS, hr.2⟩
end Go.Proofs.Ytgapnimicaopcaa
