/-
  Messages: what they have, where they lie, and their fields gone through.
-/
import Derived.Test.YtigiakhdaaoljaaParts
namespace Go.Proofs.Ytigiakhdaaoljaa
open Go.RowKit
set_option maxRecDepth 8000
/-- A message. -/
structure Msg where
  kind : Int
  sys : List Int
  config : Int
  result : Int
  reason : Int
  objs : List Ob
  obs : List Bi
def Msg.zero (k : Int) : Msg := ⟨k, [], 0, 0, 0, [], []⟩
/-- A message lies in memory, its lists in blocks of which P holds. -/
structure MsgX (w : World) (P : Nat → Prop) (M : Msg) (sa : Option Addr) (sc : Nat) (oa : Option Addr) (oc : Nat) (ba : Option Addr) (bc : Nat) : Prop where
  sr : Row w sa M.sys.length M.sys
  sn : sa = none → M.sys.length = 0 ∧ sc = 0
  sp : ∀ y, sa = some y → 0 < M.sys.length → P y.block
  sl : M.sys.length ≤ 140737488355328
  or : RowT w oa M.objs.length (M.objs.map Ob.t3)
  on : oa = none → M.objs.length = 0 ∧ oc = 0
  op : ∀ y, oa = some y → 0 < M.objs.length → P y.block
  br : RowT w ba M.obs.length (M.obs.map Bi.t3)
  bn : ba = none → M.obs.length = 0 ∧ bc = 0
  bp : ∀ y, ba = some y → 0 < M.obs.length → P y.block
  bb : ∀ o ∈ M.obs, 0 ≤ o.b ∧ o.b < 4294967296
def Msg.val (M : Msg) (sa : Option Addr) (sc : Nat) (oa : Option Addr) (oc : Nat) (ba : Option Addr) (bc : Nat) : Value :=
  .agg #[.int .i64 M.kind, .slice sa M.sys.length sc, .int .i64 M.config, .int .i64 M.result, .int .i64 M.reason, .slice oa M.objs.length oc, .slice ba M.obs.length bc]
def MsgAt (w : World) (P : Nat → Prop) (v : Value) (M : Msg) : Prop := ∃ sa sc oa oc ba bc, v = M.val sa sc oa oc ba bc ∧ MsgX w P M sa sc oa oc ba bc
theorem MsgX.but {w w' : World} {P T : Nat → Prop} {M : Msg} {sa : Option Addr} {sc : Nat} {oa : Option Addr} {oc : Nat} {ba : Option Addr} {bc : Nat} (x : MsgX w P M sa sc oa oc ba bc) (b : But T w w') (hn : ∀ k, P k → ¬ T k) : MsgX w' P M sa sc oa oc ba bc :=
  ⟨x.sr.but2 b (fun y hy h0 => hn _ (x.sp y hy h0)), x.sn, x.sp, x.sl, x.or.but b (fun y hy h0 => hn _ (x.op y hy h0)), x.on, x.op, x.br.but b (fun y hy h0 => hn _ (x.bp y hy h0)), x.bn, x.bp, x.bb⟩
theorem MsgX.after {w w' : World} {P : Nat → Prop} {M : Msg} {sa : Option Addr} {sc : Nat} {oa : Option Addr} {oc : Nat} {ba : Option Addr} {bc : Nat} (x : MsgX w P M sa sc oa oc ba bc) (b : After w w') : MsgX w' P M sa sc oa oc ba bc := x.but b (fun _ _ t => t)
theorem MsgX.mono {w : World} {P T : Nat → Prop} {M : Msg} {sa : Option Addr} {sc : Nat} {oa : Option Addr} {oc : Nat} {ba : Option Addr} {bc : Nat} (x : MsgX w P M sa sc oa oc ba bc) (h : ∀ k, P k → T k) : MsgX w T M sa sc oa oc ba bc :=
  ⟨x.sr, x.sn, fun y hy h0 => h _ (x.sp y hy h0), x.sl, x.or, x.on, fun y hy h0 => h _ (x.op y hy h0), x.br, x.bn, fun y hy h0 => h _ (x.bp y hy h0), x.bb⟩
theorem MsgX.nils (w : World) (P : Nat → Prop) (k c r q : Int) : MsgX w P ⟨k, [], c, r, q, [], []⟩ none 0 none 0 none 0 :=
  ⟨Row.nil _ _, fun _ => ⟨rfl, rfl⟩, (fun y hy => by cases hy), by simp, RowT.nil _ _, fun _ => ⟨rfl, rfl⟩, (fun y hy => by cases hy), RowT.nil _ _, fun _ => ⟨rfl, rfl⟩, (fun y hy => by cases hy), fun o ho => by cases ho⟩
theorem MsgX.ofObjs {w : World} {P : Nat → Prop} (k c r q : Int) {l : List Ob} {b : Nat} (h : RowT w (some ⟨b, 0, none⟩) l.length (l.map Ob.t3)) (hp : P b) : MsgX w P ⟨k, [], c, r, q, l, []⟩ none 0 (some ⟨b, 0, none⟩) l.length none 0 :=
  ⟨Row.nil _ _, fun _ => ⟨rfl, rfl⟩, (fun y hy => by cases hy), by simp, h, (fun h => by cases h), (fun y hy _ => by cases hy; exact hp), RowT.nil _ _, fun _ => ⟨rfl, rfl⟩, (fun y hy => by cases hy), fun o ho => by cases ho⟩
theorem MsgX.ofObs {w : World} {P : Nat → Prop} (k c r q : Int) {l : List Bi} {b : Nat} (h : RowT w (some ⟨b, 0, none⟩) l.length (l.map Bi.t3)) (hp : P b) (hb : ∀ o ∈ l, 0 ≤ o.b ∧ o.b < 4294967296) : MsgX w P ⟨k, [], c, r, q, [], l⟩ none 0 none 0 (some ⟨b, 0, none⟩) l.length :=
  ⟨Row.nil _ _, fun _ => ⟨rfl, rfl⟩, (fun y hy => by cases hy), by simp, RowT.nil _ _, fun _ => ⟨rfl, rfl⟩, (fun y hy => by cases hy), h, (fun h => by cases h), (fun y hy _ => by cases hy; exact hp), hb⟩
theorem MsgX.ofSys {w : World} {P : Nat → Prop} (k c r q : Int) {ys : List Int} {a : Option Addr} {n : Nat} (h : Row w a ys.length ys) (hn : a = none → ys.length = 0 ∧ n = 0) (hp : ∀ y, a = some y → 0 < ys.length → P y.block) (hl : ys.length ≤ 140737488355328) : MsgX w P ⟨k, ys, c, r, q, [], []⟩ a n none 0 none 0 :=
  ⟨h, hn, hp, hl, RowT.nil _ _, fun _ => ⟨rfl, rfl⟩, (fun y hy => by cases hy), RowT.nil _ _, fun _ => ⟨rfl, rfl⟩, (fun y hy => by cases hy), fun o ho => by cases ho⟩
/-- The fields of a kind, gone through. -/
def fieldsF (m : Bool) (k : Int) (M : Msg) (zs : List Int) : Except Int (Msg × List Int) :=
  if k = 57856 then thn (sysF m M.sys zs) fun s zs => thn (num m 2 65535 M.config zs) fun c zs => .ok (⟨k, s, c, 0, 0, [], []⟩, zs)
  else if k = 58112 then thn (num m 2 65535 M.result zs) fun r zs => thn (num m 2 65535 M.config zs) fun c zs => .ok (⟨k, [], c, r, 0, [], []⟩, zs)
  else if k = 58368 ∨ k = 58624 ∨ k = 58880 then thn (num m 2 65535 M.reason zs) fun q zs => .ok (⟨k, [], 0, 0, q, [], []⟩, zs)
  else if k = 3356 then thn (num m 2 65535 M.config zs) fun c zs => thn (lstO m M.objs zs) fun l zs => .ok (⟨k, [], c, 0, 0, l, []⟩, zs)
  else if k = 3357 then thn (num m 2 65535 M.config zs) fun c zs => thn (num m 2 65535 M.result zs) fun r zs => .ok (⟨k, [], c, r, 0, [], []⟩, zs)
  else if k = 3358 then thn (lstB m M.obs zs) fun l zs => .ok (⟨k, [], 0, 0, 0, [], l⟩, zs)
  else .ok (Msg.zero k, zs)
theorem seven_at {w : World} {g : Nat} {T : TypeId} {x0 x1 x2 x3 x4 x5 x6 : Value} (h : w.heap[g]? = some (.cells #[x0, x1, x2, x3, x4, x5, x6] T (0, 0))) :
    g < w.heap.size ∧ (w.cell? ⟨g, 0, none⟩ = some x0 ∧ w.cell? ⟨g, 1, none⟩ = some x1 ∧ w.cell? ⟨g, 2, none⟩ = some x2 ∧ w.cell? ⟨g, 3, none⟩ = some x3 ∧ w.cell? ⟨g, 4, none⟩ = some x4 ∧ w.cell? ⟨g, 5, none⟩ = some x5 ∧ w.cell? ⟨g, 6, none⟩ = some x6) ∧ (w.frozen? ⟨g, 0, none⟩ = false ∧ w.frozen? ⟨g, 1, none⟩ = false ∧ w.frozen? ⟨g, 2, none⟩ = false ∧ w.frozen? ⟨g, 3, none⟩ = false ∧ w.frozen? ⟨g, 4, none⟩ = false ∧ w.frozen? ⟨g, 5, none⟩ = false ∧ w.frozen? ⟨g, 6, none⟩ = false) := by
  refine ⟨(Array.getElem?_eq_some_iff.1 h).1, ⟨?_, ?_, ?_, ?_, ?_, ?_, ?_⟩, ?_, ?_, ?_, ?_, ?_, ?_, ?_⟩
  iterate 7 · simp [World.cell?, h]
  all_goals simp [World.frozen?, h]
theorem blk_setA {w : World} {b i : Nat} {A : Array Value} {T : TypeId} (h : w.heap[b]? = some (.cells A T (0, 0))) (v : Value) : (w.setCell ⟨b, i, none⟩ v).heap[b]? = some (.cells (A.setIfInBounds i v) T (0, 0)) := by
  simp [World.setCell, Array.getElem?_modify, h]
theorem Keeps.setA {w : World} {S : Nat → Prop} {k i : Nat} {A : Array Value} {T : TypeId} (h : Keeps w S k (.cells A T (0, 0))) (v : Value) : Keeps (w.setCell ⟨k, i, none⟩ v) S k (.cells (A.setIfInBounds i v) T (0, 0)) := ⟨blk_setA h.at0 v, h.out⟩
theorem new4 (w : World) (a b c d : Obj) : ((((w.alloc a).alloc b).alloc c).alloc d).heap[w.heap.size]? = some a ∧ ((((w.alloc a).alloc b).alloc c).alloc d).heap[w.heap.size + 1]? = some b ∧ ((((w.alloc a).alloc b).alloc c).alloc d).heap[w.heap.size + 1 + 1]? = some c ∧ ((((w.alloc a).alloc b).alloc c).alloc d).heap[w.heap.size + 1 + 1 + 1]? = some d := by
  obtain ⟨h0, h1, h2⟩ := new3 w a b c
  refine ⟨new_past _ _ h0, new_past _ _ h1, new_past _ _ h2, ?_⟩
  have := new1 (((w.alloc a).alloc b).alloc c) d
  rw [World.size_alloc, World.size_alloc, World.size_alloc] at this
  exact this
end Go.Proofs.Ytigiakhdaaoljaa
