/-
  Where a slow number lies in memory; New, isNone, partOf, begin, follow of package iir; what is none.
-/
import Derived.Test.YtgapnimicaopcaaGreatIrA
import Derived.Deep.QuietTactic
import Derived.BigQuiet
import Derived.Deep.RegionLaw
namespace Go.Proofs.YtgapnimicaopcaaGreat.L11
open Go.RowKit
set_option maxRecDepth 8000
/-- Which parts may be. -/
def May (n : Int) : Prop := 1 ≤ n ∧ n ≤ 1000
/-- A slow number that is nowhere lies at p. -/
structure SlN (w : World) (p N : Nat) : Prop where
  at0 : w.heap[p]? = some (.cells #[.int .i64 (N : Int), .pointer none] 118 (0, 0))
  may : May (N : Int)
/-- A slow number lies at p, where it is at g: at y. -/
structure SlY (w : World) (p g N : Nat) (y : Int) : Prop where
  at0 : w.heap[p]? = some (.cells #[.int .i64 (N : Int), Ptr g] 118 (0, 0))
  at1 : w.heap[g]? = some (.cells #[.int .i64 y] 3 (0, 0))
  may : May (N : Int)
  fit : -2147483647 ≤ y ∧ y ≤ 2147483647
  ne : p ≠ g
theorem SlN.but {S : Nat → Prop} {w w' : World} {p N : Nat} (x : SlN w p N) (b : But S w w') (hp : ¬ S p) : SlN w' p N :=
  { x with at0 := (b.block p (blk_lt x.at0) hp).trans x.at0 }
theorem SlY.but {S : Nat → Prop} {w w' : World} {p g N : Nat} {y : Int} (x : SlY w p g N y) (b : But S w w') (hp : ¬ S p) (hg : ¬ S g) : SlY w' p g N y :=
  { x with at0 := (b.block p (blk_lt x.at0) hp).trans x.at0, at1 := (b.block g (blk_lt x.at1) hg).trans x.at1 }
theorem irNew_ok (w : World) (n : Int) (h : May n) : Calls Tryz.prog 32 #[.int .i64 n] w fun e w' => e = .returned (.tuple #[Ptr w.heap.size, .int .i64 0]) ∧ w' = w.alloc (.cells #[.int .i64 n, .pointer none] 118) := by
  obtain ⟨h1, h2⟩ := h
  go_enter Tryz.func32, Tryz.ntmps32
  go_wp2
  go_ret2
  exact ⟨rfl, rfl⟩
theorem irNew_no (w : World) (n : Int) (h : ¬ May n) : Calls Tryz.prog 32 #[.int .i64 n] w fun e w' => e = .returned (.tuple #[.pointer none, .int .i64 2]) ∧ w' = w := by
  rcases (by unfold May at h; omega : n < 1 ∨ (¬ n < 1 ∧ 1000 < n)) with h1 | ⟨h1, h2⟩
  all_goals
    clear h
    go_enter Tryz.func32, Tryz.ntmps32
    go_wp2
    go_ret2
    exact ⟨rfl, rfl⟩
theorem irNone_no {w : World} {p N : Nat} {v : Value} (x : w.heap[p]? = some (.cells #[.int .i64 (N : Int), v] 118 (0, 0))) (h : May (N : Int)) : Calls Tryz.prog 120 #[Ptr p] w fun e w' => e = .returned (.bool false) ∧ w' = w := by
  obtain ⟨_, c, _, _, _⟩ := two_at x
  have hn : ¬ (N : Int) = 0 := by have := h.1; omega
  have hb : ((N : Int) == 0) = false := by simpa using hn
  clear x hn h
  go_enter Tryz.func120, Tryz.ntmps120
  go_wp2
  go_ret
  exact ⟨rfl, rfl⟩
theorem irNone_zero {w : World} {p : Nat} (h : w.heap[p]? = some (.cells #[.int .i64 0, .pointer none] 118 (0, 0))) : Calls Tryz.prog 120 #[Ptr p] w fun e w' => e = .returned (.bool true) ∧ w' = w := by
  obtain ⟨_, c, _, _, _⟩ := two_at h
  clear h
  go_enter Tryz.func120, Tryz.ntmps120
  go_wp2
  go_ret
  exact ⟨rfl, rfl⟩
theorem irNone_nil (w : World) : Calls Tryz.prog 120 #[.pointer none] w fun e w' => e = .returned (.bool true) ∧ w' = w := by
  go_enter Tryz.func120, Tryz.ntmps120
  go_wp2
  go_ret
  exact ⟨rfl, rfl⟩
/-- What is none answers so. -/
def NoneI (w : World) (v : Value) : Prop := Calls Tryz.prog 120 #[v] w fun e w' => e = .returned (.bool true) ∧ w' = w
theorem irPush_none {w : World} {v : Value} (h : NoneI w v) (y : Int) : Calls Tryz.prog 118 #[v, .int .i64 y] w fun e w' => e = .returned (.tuple #[.int .i64 0, .int .i64 1]) ∧ w' = w := by
  unfold NoneI at h
  have H := hideIt h
  clear h
  go_enter Tryz.func118, Tryz.ntmps118
  go_wp2_with (go_at_call 120; refine H.out.mono ?_; rintro e w' ⟨rfl, rfl⟩)
  go_ret2
  exact ⟨rfl, rfl⟩
set_option maxHeartbeats 1000000 in
theorem partOf_any {w : World} {p N : Nat} {v : Value} (x : w.heap[p]? = some (.cells #[.int .i64 (N : Int), v] 118 (0, 0))) (h : May (N : Int)) (d : Int) (h1 : -4294967294 ≤ d) (h2 : d ≤ 4294967294) :
    Calls Tryz.prog 122 #[Ptr p, .int .i64 d] w fun e w' => e = .returned (.int .i64 (stp N d)) ∧ Dr w w' := by
  obtain ⟨n1, n2⟩ := h
  have hg := stp_go N d
  have r1 := Int.lt_tmod_of_pos d (show (0 : Int) < 1000 by omega)
  have r2 := Int.tmod_lt_of_pos d (show (0 : Int) < 1000 by omega)
  have hq := Int.mul_tdiv_add_tmod d 1000
  obtain ⟨_, c, _, _, _⟩ := two_at x
  generalize hQ : d.tdiv 1000 = Q at *
  generalize hR : d.tmod 1000 = R at *
  have HM := hideIt (fun W => mul_any (N : Int) R n1 n2 r1 r2 W)
  have hm := mul_in (p := N) (d := R) (m := 1000) (by omega) (by omega) (by omega)
  have hn := near_between (s := (N : Int) * R) (lo := -1000000) (hi := 1000000) (k := 1000) (by omega) (by omega) (by omega)
  have ht := mul_in (p := N) (d := Q) (m := 4294968) (by omega) (by omega) (by omega)
  generalize near ((N : Int) * R) 1000 = M at *
  generalize hT : (N : Int) * Q = T at *
  rw [← hg]
  have q1 : -4294968 ≤ Q := by omega
  have q2 : Q ≤ 4294968 := by omega
  clear hg hm hq x r1 r2
  go_enter Tryz.func122, Tryz.ntmps122
  go_wp2_with fail
  go_quiet (first | (go_at_call 123; refine Calls.quiet_of (HM.out _)))
  go_wp2
  go_ret
  exact ⟨rfl, _, rfl⟩
theorem begin_any {w : World} {p N : Nat} (x : SlN w p N) (v : Int) : Calls Tryz.prog 119 #[Ptr p, .int .i64 v] w fun e w' => e = .returned (.tuple #[]) ∧ w' = (w.setCell ⟨p, 1, none⟩ (Ptr w.heap.size)).alloc (.cells #[.int .i64 v] 3) := by
  obtain ⟨l, _, c, _, f⟩ := two_at x.at0
  clear x
  go_enter Tryz.func119, Tryz.ntmps119
  go_wp2
  go_end0
  exact ⟨rfl, rfl⟩
theorem enter_of {f : Nat} {fn : Func} (hf : Tryz.prog.funcs[f]? = some fn) (hname : (fn.name == "runtime.NumGoroutine") = false) (hb0 : fn.body.isSome = true) (args : Array Value) (w : World) : (callFunc f args).run Tryz.prog w = .ok (.enter f args) w := by
  obtain ⟨c, hb⟩ := Option.isSome_iff_exists.1 hb0
  have hn : fn.name ≠ "runtime.NumGoroutine" := by simpa using hname
  simp [callFunc, go_sem, hf, hn, hb]
/-- A call of two that answers and draws alone, at a step of a region that draws its order. -/
theorem step_draw {ops : Array Oper} {o : Oper} {a : Act} {w : World} {K : Act → World → Prop} {Q : Exit → Act → World → Prop} {E : Prop} {f : Nat} {x y : Operand} {ts : Array Nat} {u z v : Value} (hgd : o.guard = none) (ho : o.op = .call { callee := .value (.func f), args := #[x, y], argTypes := ts }) (hx : a.eval x = u) (hy : a.eval y = z) (hf : ∀ args W, (callFunc f args).run Tryz.prog W = .ok (.enter f args) W) (hc : Calls Tryz.prog f #[u, z] w fun e w' => e = .returned v ∧ Dr w w') (h : ∀ m, K (a.put o.dst v) (w.drewN m)) :
    if Region.wanted o (yielded ops a.tmps) = true then Oper.wp Tryz.prog o a w K Q else E := by
  have hw : Region.wanted o (yielded ops a.tmps) = true := by simp [Region.wanted, hgd]
  rw [if_pos hw]
  unfold Oper.wp execOp
  have e : a.eval (.func f) = .func (.func f) #[] #[] := rfl
  simp [ho, resolve, e, Deferred.ofValue, invoke, hf, Oper.upon, hx, hy]
  refine Calls.mono hc ?_
  rintro e w' ⟨rfl, m, rfl⟩
  exact h m
set_option maxHeartbeats 1000000 in
theorem follow_any {w : World} {p g N : Nat} {y : Int} (x : SlY w p g N y) (v : Int) (h1 : -2147483647 ≤ v) (h2 : v ≤ 2147483647) : Calls Tryz.prog 121 #[Ptr p, .int .i64 v] w fun e w' => e = .returned (.tuple #[]) ∧ ∃ m, w' = (w.setCell ⟨g, 0, none⟩ (.int .i64 (nx N y v))).drewN m := by
  obtain ⟨l, c0, c1, f0, f1⟩ := two_at x.at0
  obtain ⟨k, d0, e0⟩ := one_at x.at1
  have hf := nx_fit (p := N) (by have := x.may.2; omega) x.fit ⟨h1, h2⟩
  have y1 := x.fit
  have hs : y + stp N (v - y) = nx N y v := rfl
  generalize nx N y v = M at *
  have hp := show ∀ W : World, W.heap = w.heap → _ from fun W h => partOf_any (w := W) (p := p) (by rw [h]; exact x.at0) x.may (v - y) (by omega) (by omega)
  generalize stp N (v - y) = D at *
  rw [← show IntKind.i64.wrap (v - y) = v - y from IntWalk.i64_in _ (by omega)] at hp
  have HP := hideIt hp
  clear hp
  have hd : -4294967294 ≤ D ∧ D ≤ 4294967294 := by omega
  have HE := hideIt (enter_of Tryz.func122 (by kernel_rfl) (by kernel_rfl))
  clear x
  go_enter Tryz.func121, Tryz.ntmps121
  go_wp2_with fail
  go_region_law (refine step_draw (by rfl) (by rfl) (by rfl) (by rfl) HE.out (HP.out _ rfl) ?_; intro m)
  all_goals
    rw [show IntKind.i64.wrap M = M from IntWalk.i64_in _ (by omega)]
    go_wp2
    go_end0
    exact ⟨rfl, _, rfl⟩
theorem SlN.push {w : World} {p N : Nat} (x : SlN w p N) {v : Int} (h : -2147483647 ≤ v ∧ v ≤ 2147483647) : SlY ((w.setCell ⟨p, 1, none⟩ (Ptr w.heap.size)).alloc (.cells #[.int .i64 v] 3)) p w.heap.size N v ∧ But (Two p w.heap.size) w ((w.setCell ⟨p, 1, none⟩ (Ptr w.heap.size)).alloc (.cells #[.int .i64 v] 3)) ∧ ((w.setCell ⟨p, 1, none⟩ (Ptr w.heap.size)).alloc (.cells #[.int .i64 v] 3)).heap.size = w.heap.size + 1 := by
  have hp := blk_lt x.at0
  have z : (w.setCell ⟨p, 1, none⟩ (Ptr w.heap.size)).heap.size = w.heap.size := by simp [World.setCell]
  have h1 := two_set1 x.at0 (Ptr w.heap.size)
  refine ⟨⟨?_, ?_, x.may, h, by omega⟩, (But.set (S := Two p w.heap.size) But.rfl ⟨p, 1, none⟩ (fun _ => .inl rfl) _).alloc _, by simp [z]⟩
  · rw [Below.heap_alloc _ _ _ (by rw [z]; exact hp)]
    exact h1
  · have h2 := heap_alloc_new (w.setCell ⟨p, 1, none⟩ (Ptr w.heap.size)) (.cells #[.int .i64 v] 3)
    rw [z] at h2
    exact h2
theorem SlY.push {w : World} {p g N : Nat} {y : Int} (x : SlY w p g N y) {v : Int} (h : -2147483647 ≤ v ∧ v ≤ 2147483647) (m : Nat) : SlY ((w.setCell ⟨g, 0, none⟩ (.int .i64 (nx N y v))).drewN m) p g N (nx N y v) ∧ But (Two p g) w ((w.setCell ⟨g, 0, none⟩ (.int .i64 (nx N y v))).drewN m) := by
  have b : But (One g) w ((w.setCell ⟨g, 0, none⟩ (.int .i64 (nx N y v))).drewN m) := (But.set (S := One g) But.rfl ⟨g, 0, none⟩ (fun _ => rfl) _).draws m
  refine ⟨⟨(b.block p (blk_lt x.at0) (fun t => x.ne t)).trans x.at0, one_set x.at1 _, x.may, nx_fit (by have := x.may.2; omega) x.fit h, x.ne⟩, b.mono (fun i _ t => .inr t)⟩
/-- A slow number lies at p; where it is stands at g, as soon as it is somewhere. -/
def Sl (w : World) (p g N : Nat) (o : Option Int) : Prop := match o with
  | none => SlN w p N
  | some y => SlY w p g N y
theorem Sl.but {S : Nat → Prop} {w w' : World} {p g N : Nat} {o : Option Int} (x : Sl w p g N o) (b : But S w w') (hp : ¬ S p) (hg : ¬ S g) : Sl w' p g N o := by
  cases o with
  | none => exact SlN.but x b hp
  | some y => exact SlY.but x b hp hg
theorem Sl.lt {w : World} {p g N : Nat} {o : Option Int} (x : Sl w p g N o) : p < w.heap.size := by
  cases o with
  | none => exact blk_lt (SlN.at0 x)
  | some y => exact blk_lt (SlY.at0 x)
theorem Sl.may {w : World} {p g N : Nat} {o : Option Int} (x : Sl w p g N o) : May (N : Int) := by
  cases o with
  | none => exact SlN.may x
  | some y => exact SlY.may x
set_option maxHeartbeats 1000000 in
theorem irPush_first {w : World} {p N : Nat} (x : SlN w p N) (v : Int) : Calls Tryz.prog 118 #[Ptr p, .int .i64 v] w fun e w' => e = .returned (.tuple #[.int .i64 (clampZ v), .int .i64 0]) ∧ SlY w' p w.heap.size N (clampZ v) ∧ But (Two p w.heap.size) w w' ∧ w'.heap.size = w.heap.size + 1 := by
  have HN := hideIt (irNone_no x.at0 x.may)
  have HC := hideIt (fun W => clamp_any v W)
  have hf := clampZ_le v
  generalize clampZ v = c at *
  have HB := hideIt (begin_any x c)
  have hp := x.push hf
  obtain ⟨l, _, c1, _, _⟩ := two_at x.at0
  obtain ⟨W, hW⟩ : ∃ W, W = (w.setCell ⟨p, 1, none⟩ (Ptr w.heap.size)).alloc (.cells #[.int .i64 c] 3) := ⟨_, rfl⟩
  rw [← hW] at HB hp
  have HP := hideIt hp
  obtain ⟨_, _, d1, _, _⟩ := two_at hp.1.at0
  obtain ⟨_, e0, _⟩ := one_at hp.1.at1
  have hmf : ∀ (fn : Fn) (first cap : Array Value) (w : World), (Instr.makeFunc fn first cap).run Tryz.prog w = .ok (.func fn first cap) w := fun _ _ _ _ => rfl
  clear hW hp x hf
  go_enter Tryz.func118, Tryz.ntmps118
  go_wp2_with (go_at_call 120; refine HN.out.mono ?_; rintro e w' ⟨rfl, rfl⟩)
  refine (HC.out _).mono ?_
  rintro e w2 ⟨rfl, rfl⟩
  go_wp2_with fail
  refine HB.out.mono ?_
  rintro e w2 ⟨rfl, rfl⟩
  go_wp2
  go_ret2
  exact ⟨rfl, HP.out⟩
set_option maxHeartbeats 1000000 in
theorem irPush_next {w : World} {p g N : Nat} {y : Int} (x : SlY w p g N y) (v : Int) : Calls Tryz.prog 118 #[Ptr p, .int .i64 v] w fun e w' => e = .returned (.tuple #[.int .i64 (nx N y (clampZ v)), .int .i64 0]) ∧ SlY w' p g N (nx N y (clampZ v)) ∧ But (Two p g) w w' := by
  have HN := hideIt (irNone_no x.at0 x.may)
  have HC := hideIt (fun W => clamp_any v W)
  have hf := clampZ_le v
  generalize clampZ v = c at *
  have HB := hideIt (follow_any x c hf.1 hf.2)
  have HP := hideIt (fun m => x.push hf m)
  obtain ⟨l, _, c1, _, _⟩ := two_at x.at0
  have hmf : ∀ (fn : Fn) (first cap : Array Value) (w : World), (Instr.makeFunc fn first cap).run Tryz.prog w = .ok (.func fn first cap) w := fun _ _ _ _ => rfl
  generalize nx N y c = M at *
  clear x hf
  go_enter Tryz.func118, Tryz.ntmps118
  go_wp2_with (go_at_call 120; refine HN.out.mono ?_; rintro e w' ⟨rfl, rfl⟩)
  refine (HC.out _).mono ?_
  rintro e w2 ⟨rfl, rfl⟩
  go_wp2_with fail
  refine HB.out.mono ?_
  rintro e w3 ⟨rfl, m, hw⟩
  obtain ⟨h1, h2⟩ := HP.out m
  rw [← hw] at h1 h2
  obtain ⟨_, _, d1, _, _⟩ := two_at h1.at0
  obtain ⟨_, e0, _⟩ := one_at h1.at1
  have HQ := hideIt (And.intro h1 h2)
  clear h1 h2 hw
  go_wp2
  go_ret2
  exact ⟨rfl, HQ.out⟩
theorem irPush_any {w : World} {p g N : Nat} {o : Option Int} (x : Sl w p g N o) (hg : o = none → w.heap.size = g) (v : Int) : Calls Tryz.prog 118 #[Ptr p, .int .i64 v] w fun e w' => e = .returned (.tuple #[.int .i64 (nxo N o (clampZ v)), .int .i64 0]) ∧ Sl w' p g N (some (nxo N o (clampZ v))) ∧ But (Two p g) w w' ∧ (o = none → w'.heap.size = w.heap.size + 1) := by
  cases o with
  | none =>
    have h := hg rfl
    subst h
    refine (irPush_first x v).mono ?_
    rintro e w' ⟨rfl, h1, h2, h3⟩
    exact ⟨rfl, h1, h2, fun _ => h3⟩
  | some y =>
    refine (irPush_next x v).mono ?_
    rintro e w' ⟨rfl, h1, h2⟩
    exact ⟨rfl, h1, h2, fun h => by cases h⟩
end Go.Proofs.YtgapnimicaopcaaGreat.L11
