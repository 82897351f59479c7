/-
  Laid together: Ones, Trip, ListB.
-/
import Derived.Test.YthcfdoafncbliaaB03
import Derived.Laws.MakeOwn
import Derived.Laws.CopyOwn
/-
  One number of an object, one object, by a coder.
-/
namespace Go.Proofs.Ythcfdoafncbliaa
open Go.RowKit
set_option maxRecDepth 8000
/-- A number of an object. -/
structure Bi where
  h : Int
  l : Bool
  b : Int
/-- An object. -/
structure Ob where
  h : Int
  u : Int
  l : Bool
def Bi.val (o : Bi) : Value := .agg #[.int .i64 o.h, .bool o.l, .int .u32 o.b]
def Ob.val (o : Ob) : Value := .agg #[.int .i64 o.h, .int .i64 o.u, .bool o.l]
/-- A number of an object, gone through. -/
def obs1 (m : Bool) (o : Bi) (zs : List Int) : Except Int (Bi × List Int) :=
  thn (num m 2 65535 o.h zs) fun h zs => thn (eit m o.l 4 2 zs) fun l zs => thn (if l then num m 4 4294967295 o.b zs else num m 2 65535 o.b zs) fun b zs => .ok (⟨h, l, b⟩, zs)
/-- An object, gone through; hs: the handles ahead of it. -/
def obj1 (m : Bool) (hs : List Int) (o : Ob) (zs : List Int) : Except Int (Ob × List Int) :=
  thn (num m 2 65535 o.h zs) fun h zs => if h ∈ hs then .error (stp m 4) else thn (num m 2 65535 o.u zs) fun u zs => thn (eit m o.l 1 0 zs) fun l zs => .ok (⟨h, u, l⟩, zs)
theorem num_bound {m : Bool} {k M : Nat} {v x : Int} {zs ys : List Int} (h : num m k M v zs = .ok (x, ys)) (hb : Bs zs) (hk : 256 ^ k ≤ (M : Int) + 1) : 0 ≤ x ∧ x ≤ M := by
  unfold num at h
  split at h
  · split at h
    · cases h; assumption
    · cases h
  · split at h
    · rename_i hl
      cases h
      have := be_bound hb k hl
      omega
    · cases h
/-- The blocks from n up to m are not a coder's. -/
def Off (S : Nat → Prop) (n m : Nat) : Prop := ∀ k, S k → k < n ∨ m ≤ k
theorem Off.step {S S' : Nat → Prop} {w w' : World} {n m : Nat} (f : Off S n m) (s : Stp S w S' w') (h : m ≤ w.heap.size) : Off S' n m := fun k hk => (s.new k hk).elim (f k) (fun h' => .inr (Nat.le_trans h h'))
theorem Off.old {S : Nat → Prop} {w : World} (h : ∀ k, S k → k < w.heap.size) (m : Nat) : Off S w.heap.size m := fun k hk => .inl (h k hk)
theorem blk {S : Nat → Prop} {w w' : World} {n m k : Nat} {o : Obj} (b : But S w w') (f : Off S n m) (h1 : n ≤ k) (h2 : k < m) (h : w.heap[k]? = some o) : w'.heap[k]? = some o :=
  (b.block k (Array.getElem?_eq_some_iff.1 h).1 (fun hk => (f k hk).elim (fun h' => by omega) (fun h' => by omega))).trans h
theorem new1 (w : World) (a : Obj) : (w.alloc a).heap[w.heap.size]? = some a := heap_alloc_new w a
theorem new_past (w : World) (a : Obj) {k : Nat} {o : Obj} (h : w.heap[k]? = some o) : (w.alloc a).heap[k]? = some o := (Below.heap_alloc _ _ _ (Array.getElem?_eq_some_iff.1 h).1).trans h
theorem new2 (w : World) (a b : Obj) : ((w.alloc a).alloc b).heap[w.heap.size]? = some a ∧ ((w.alloc a).alloc b).heap[w.heap.size + 1]? = some b :=
  ⟨new_past _ _ (new1 w a), by have := new1 (w.alloc a) b; rw [World.size_alloc] at this; exact this⟩
theorem new3 (w : World) (a b c : Obj) : (((w.alloc a).alloc b).alloc c).heap[w.heap.size]? = some a ∧ (((w.alloc a).alloc b).alloc c).heap[w.heap.size + 1]? = some b ∧ (((w.alloc a).alloc b).alloc c).heap[w.heap.size + 1 + 1]? = some c :=
  ⟨new_past _ _ (new2 w a b).1, new_past _ _ (new2 w a b).2, by have := new1 ((w.alloc a).alloc b) c; rw [World.size_alloc, World.size_alloc] at this; exact this⟩
theorem set_far {w : World} {g k : Nat} {x : Value} {o : Nat} {ob : Obj} (h : w.heap[k]? = some ob) (hn : k ≠ g) : (w.setCell ⟨g, o, none⟩ x).heap[k]? = some ob := (Below.heap_setCell _ _ _ _ hn).trans h
theorem Cod.set {w : World} {p q : Option Addr} {m : Bool} {zs : List Int} {S : Nat → Prop} (c : Cod w p q m zs S) {g : Nat} (hg : ¬ S g) (o : Nat) (x : Value) : Cod (w.setCell ⟨g, o, none⟩ x) p q m zs S :=
  c.but (T := One g) (But.set (S := One g) But.rfl ⟨g, o, none⟩ (fun _ => rfl) x) (fun k hk h => hg (by rw [← h]; exact hk))
theorem three_at {w : World} {g : Nat} {T : TypeId} {x y z : Value} (h : w.heap[g]? = some (.cells #[x, y, z] T (0, 0))) :
    g < w.heap.size ∧ w.cell? ⟨g, 0, none⟩ = some x ∧ w.cell? ⟨g, 1, none⟩ = some y ∧ w.cell? ⟨g, 2, none⟩ = some z ∧ w.frozen? ⟨g, 0, none⟩ = false ∧ w.frozen? ⟨g, 1, none⟩ = false ∧ w.frozen? ⟨g, 2, none⟩ = false := by
  refine ⟨(Array.getElem?_eq_some_iff.1 h).1, ?_, ?_, ?_, ?_, ?_, ?_⟩
  · simp [World.cell?, h]
  · simp [World.cell?, h]
  · simp [World.cell?, h]
  · simp [World.frozen?, h]
  · simp [World.frozen?, h]
  · simp [World.frozen?, h]
theorem three_set0 {w : World} {g : Nat} {T : TypeId} {x y z : Value} (h : w.heap[g]? = some (.cells #[x, y, z] T (0, 0))) (v : Value) : (w.setCell ⟨g, 0, none⟩ v).heap[g]? = some (.cells #[v, y, z] T (0, 0)) := by
  simp [World.setCell, Array.getElem?_modify, h]
theorem three_set1 {w : World} {g : Nat} {T : TypeId} {x y z : Value} (h : w.heap[g]? = some (.cells #[x, y, z] T (0, 0))) (v : Value) : (w.setCell ⟨g, 1, none⟩ v).heap[g]? = some (.cells #[x, v, z] T (0, 0)) := by
  simp [World.setCell, Array.getElem?_modify, h]
theorem three_set2 {w : World} {g : Nat} {T : TypeId} {x y z : Value} (h : w.heap[g]? = some (.cells #[x, y, z] T (0, 0))) (v : Value) : (w.setCell ⟨g, 2, none⟩ v).heap[g]? = some (.cells #[x, y, v] T (0, 0)) := by
  simp [World.setCell, Array.getElem?_modify, h]
/-- What is stored into a new block is as if nothing was. -/
theorem But.new {S : Nat → Prop} {w w' : World} (b : But S w w') {g : Nat} (hg : w.heap.size ≤ g) (o : Nat) (x : Value) : But S w (w'.setCell ⟨g, o, none⟩ x) := b.set _ (fun h => absurd h (by simp; omega)) x
theorem Stp.newly {S S' : Nat → Prop} {w w' : World} (b : Stp S w S' w') {g : Nat} (hg : w.heap.size ≤ g) (o : Nat) (x : Value) : Stp S w S' (w'.setCell ⟨g, o, none⟩ x) := ⟨b.but.new hg o x, b.new⟩
theorem c_obs (w : World) (p q : Option Addr) (m : Bool) (zs : List Int) (S : Nat → Prop) (o : Bi) (c : Cod w p q m zs S) (hl : m = true → zs.length ≤ 999999990) (hb : 0 ≤ o.b ∧ o.b < 4294967296) :
    Calls Try.prog 57 #[Co p q, o.val] w fun e w' => Ends (obs1 m o zs) (fun x ys => e = .returned x.val ∧ Went w w' p q m S ys) (fun c => e = .panicked (Halt c) ∧ But S w w') := by
  obtain ⟨oh, ol, ob⟩ := o
  show Calls Try.prog 57 #[Co p q, .agg #[.int .i64 oh, .bool ol, .int .u32 ob]] w _
  have hA : After w (((w.alloc (.cells #[.pointer p, .pointer q] 65)).alloc (.cells #[.int .i64 oh, .bool ol, .int .u32 ob] 49)).alloc (.cells #[.int .i64 0, .bool false, .int .u32 0] 49)) := ((After.rfl.alloc _).alloc _).alloc _
  obtain ⟨b0, b1, b2⟩ := new3 w (.cells #[.pointer p, .pointer q] 65) (.cells #[.int .i64 oh, .bool ol, .int .u32 ob] 49) (.cells #[.int .i64 0, .bool false, .int .u32 0] 49)
  have f0 : Off S w.heap.size (w.heap.size + 3) := Off.old c.lt _
  have HE := hideIt (show obs1 m ⟨oh, ol, ob⟩ zs = thn (num m 2 65535 oh zs) fun h zs => thn (eit m ol 4 2 zs) fun l zs => thn (if l then num m 4 4294967295 ob zs else num m 2 65535 ob zs) fun b zs => .ok (⟨h, l, b⟩, zs) from rfl)
  have H1 := hideIt (c_u16 _ p q m zs S oh (c.after hA) (fun h => by have := hl h; omega))
  have hb' : 0 ≤ ob ∧ ob < 4294967296 := hb
  have hw1 : IntKind.i64.wrap ob = ob := by rw [IntKind.wrap_i64]; omega
  have HX := hideIt (And.intro hA (And.intro b0 (And.intro b1 (And.intro b2 (And.intro f0 hl)))))
  have HB := hideIt hb
  clear hA b0 b1 b2 f0 hl c hb hb'
  go_enter Try.func57, Try.ntmps57
  go_wp2_with fail
  refine H1.out.mono ?_
  clear H1
  intro e w1 h1
  obtain ⟨hA, b0, b1, b2, f0, hl⟩ := HX.out
  rcases h1.split with ⟨c1, e1, rfl, t⟩ | ⟨x1, z1, e1, rfl, S1, k1, s1⟩
  · exact ⟨rfl, Ends.bad (by rw [HE.out, thn_bad e1]) ⟨rfl, hA.but.trans t⟩⟩
  have q1_0 := blk s1.but f0 (by omega) (by omega) b0
  have q1_1 := blk s1.but f0 (by omega) (by omega) b1
  have q1_2 := blk s1.but f0 (by omega) (by omega) b2
  have f1 := f0.step s1 (by simp; try omega)
  obtain ⟨_, c1_0_0, c1_0_1, z1_0_0, z1_0_1⟩ := two_at q1_0
  obtain ⟨_, c1_1_0, c1_1_1, c1_1_2, z1_1_0, z1_1_1, z1_1_2⟩ := three_at q1_1
  obtain ⟨_, c1_2_0, c1_2_1, c1_2_2, z1_2_0, z1_2_1, z1_2_2⟩ := three_at q1_2
  have r1_0 := set_far (g := w.heap.size + 1) (o := 0) (x := .int .i64 x1) q1_0 (by omega)
  have r1_1 := three_set0 q1_1 (.int .i64 x1)
  have r1_2 := set_far (g := w.heap.size + 1) (o := 0) (x := .int .i64 x1) q1_2 (by omega)
  have k1' := k1.set (g := w.heap.size + 1) (fun h => by have := f1 _ h; omega) 0 (.int .i64 x1)
  have t1 := num_len e1
  have HE1 := hideIt (HE.out.trans (thn_ok e1))
  have HT1 := hideIt (Stp.behind hA s1)
  have H2 := hideIt (c_either _ p q m z1 S1 ol 4 2 k1' (fun h => by have := hl h; omega))
  have HX1 := hideIt (And.intro f1 (And.intro r1_0 (And.intro r1_1 (And.intro r1_2 (And.intro t1 (And.intro hl (And.intro s1.but.size hA.size)))))))
  clear HX h1 hA b0 b1 b2 f0 hl e1 k1 s1 q1_0 q1_1 q1_2 f1 r1_0 r1_1 r1_2 k1' t1 HE
  go_wp2_with fail
  refine H2.out.mono ?_
  clear H2
  intro e w2 h2
  obtain ⟨f1, r1_0, r1_1, r1_2, t1, hl, z1s, z2s⟩ := HX1.out
  rw [World.size_alloc, World.size_alloc, World.size_alloc] at z1s
  rcases h2.split with ⟨c2, e2, rfl, t⟩ | ⟨x2, z2, e2, rfl, S2, k2, s2⟩
  · exact ⟨rfl, Ends.bad (by rw [HE1.out, thn_bad e2]) ⟨rfl, (HT1.out.newly (by omega) _ _).ends t⟩⟩
  have q2_0 := blk s2.but f1 (by omega) (by omega) r1_0
  have q2_1 := blk s2.but f1 (by omega) (by omega) r1_1
  have q2_2 := blk s2.but f1 (by omega) (by omega) r1_2
  have f2 := f1.step s2 (by simp [World.setCell]; try omega)
  obtain ⟨_, c2_0_0, c2_0_1, z2_0_0, z2_0_1⟩ := two_at q2_0
  obtain ⟨_, c2_1_0, c2_1_1, c2_1_2, z2_1_0, z2_1_1, z2_1_2⟩ := three_at q2_1
  obtain ⟨_, c2_2_0, c2_2_1, c2_2_2, z2_2_0, z2_2_1, z2_2_2⟩ := three_at q2_2
  have r2_0 := set_far (g := w.heap.size + 1) (o := 1) (x := .bool x2) q2_0 (by omega)
  have r2_1 := three_set1 q2_1 (.bool x2)
  have r2_2 := set_far (g := w.heap.size + 1) (o := 1) (x := .bool x2) q2_2 (by omega)
  have k2' := k2.set (g := w.heap.size + 1) (fun h => by have := f2 _ h; omega) 1 (.bool x2)
  have t2 := eit_len e2
  have HE2 := hideIt (HE1.out.trans (thn_ok e2))
  have HT2 := hideIt ((HT1.out.newly (g := w.heap.size + 1) (by omega) 0 (.int .i64 x1)).trans s2)
  have HK2 := hideIt (And.intro k2' k2.bs)
  have HX2 := hideIt (And.intro f2 (And.intro r2_0 (And.intro r2_1 (And.intro r2_2 (And.intro (show m = true → z2.length ≤ 1000000000 from fun h => by have := hl h; omega) (And.intro s2.but.size z1s))))))
  clear HX1 h2 f1 r1_0 r1_1 r1_2 t1 hl e2 k2 s2 q2_0 q2_1 q2_2 f2 r2_0 r2_1 r2_2 k2' t2 HE1 HT1 z1s z2s c1_0_0 c1_0_1 c1_1_0 c1_1_1 c1_1_2 c1_2_0 c1_2_1 c1_2_2 z1_0_0 z1_0_1 z1_1_0 z1_1_1 z1_1_2 z1_2_0 z1_2_1 z1_2_2
  cases x2 with
  | true =>
    have H3 := hideIt (c_u32 _ p q m z2 S2 ob HK2.out.1 HX2.out.2.2.2.2.1 HB.out.1 HB.out.2)
    go_wp2_with fail
    refine H3.out.mono ?_
    clear H3
    intro e w3 h3
    obtain ⟨f2, r2_0, r2_1, r2_2, hl, z1s, z2s⟩ := HX2.out
    rw [World.size_setCell] at z1s
    rcases h3.split with ⟨c3, e3, rfl, t⟩ | ⟨x3, z3, e3, rfl, S3, k3, s3⟩
    · exact ⟨rfl, Ends.bad (HE2.out.trans (thn_bad e3)) ⟨rfl, (HT2.out.newly (by omega) _ _).ends t⟩⟩
    have q3_0 := blk s3.but f2 (by omega) (by omega) r2_0
    have q3_1 := blk s3.but f2 (by omega) (by omega) r2_1
    have q3_2 := blk s3.but f2 (by omega) (by omega) r2_2
    have f3 := f2.step s3 (by simp [World.setCell]; omega)
    obtain ⟨_, c3_0_0, c3_0_1, z3_0_0, z3_0_1⟩ := two_at q3_0
    obtain ⟨_, c3_1_0, c3_1_1, c3_1_2, z3_1_0, z3_1_1, z3_1_2⟩ := three_at q3_1
    obtain ⟨_, c3_2_0, c3_2_1, c3_2_2, z3_2_0, z3_2_1, z3_2_2⟩ := three_at q3_2
    have E := hideIt (HE2.out.trans (thn_ok e3))
    have HT3 := hideIt ((HT2.out.newly (g := w.heap.size + 1) (by omega) 1 (.bool true)).trans s3)
    have hw3 : IntKind.u32.wrap x3 = x3 := by have := num_bound e3 HK2.out.2 (by decide); rw [IntKind.wrap_u32]; omega
    have HK3 := hideIt (And.intro k3 f3)
    have HZ := hideIt (And.intro s3.but.size (And.intro z1s z2s))
    clear HX2 h3 f2 r2_0 r2_1 r2_2 hl z1s z2s e3 k3 s3 q3_0 q3_1 q3_2 f3 HE2 HT2 HK2
    go_wp2_with fail
    have f3 := HK3.out.2
    refine bodyPost_ret (v := .agg #[.int .i64 x1, .bool true, .int .u32 x3]) (by simp [results, Try.results57, go_sem, c3_2_0, c3_2_1, c3_2_2]) rfl (Ends.ok E.out ⟨rfl, S3, ?_, ?_⟩)
    · iterate 4 refine Cod.set ?_ (fun h => by have := f3 _ h; omega) _ _
      exact HK3.out.1
    · have := HZ.out
      iterate 4 refine Stp.newly ?_ (by omega) _ _
      exact HT3.out
  | false =>
    have H3 := hideIt (c_u16 _ p q m z2 S2 ob HK2.out.1 HX2.out.2.2.2.2.1)
    go_wp2_with fail
    refine H3.out.mono ?_
    clear H3
    intro e w3 h3
    obtain ⟨f2, r2_0, r2_1, r2_2, hl, z1s, z2s⟩ := HX2.out
    rw [World.size_setCell] at z1s
    rcases h3.split with ⟨c3, e3, rfl, t⟩ | ⟨x3, z3, e3, rfl, S3, k3, s3⟩
    · exact ⟨rfl, Ends.bad (HE2.out.trans (thn_bad e3)) ⟨rfl, (HT2.out.newly (by omega) _ _).ends t⟩⟩
    have q3_0 := blk s3.but f2 (by omega) (by omega) r2_0
    have q3_1 := blk s3.but f2 (by omega) (by omega) r2_1
    have q3_2 := blk s3.but f2 (by omega) (by omega) r2_2
    have f3 := f2.step s3 (by simp [World.setCell]; omega)
    obtain ⟨_, c3_0_0, c3_0_1, z3_0_0, z3_0_1⟩ := two_at q3_0
    obtain ⟨_, c3_1_0, c3_1_1, c3_1_2, z3_1_0, z3_1_1, z3_1_2⟩ := three_at q3_1
    obtain ⟨_, c3_2_0, c3_2_1, c3_2_2, z3_2_0, z3_2_1, z3_2_2⟩ := three_at q3_2
    have E := hideIt (HE2.out.trans (thn_ok e3))
    have HT3 := hideIt ((HT2.out.newly (g := w.heap.size + 1) (by omega) 1 (.bool false)).trans s3)
    have hw3 : IntKind.u32.wrap x3 = x3 := by have := num_bound e3 HK2.out.2 (by decide); rw [IntKind.wrap_u32]; omega
    have HK3 := hideIt (And.intro k3 f3)
    have HZ := hideIt (And.intro s3.but.size (And.intro z1s z2s))
    clear HX2 h3 f2 r2_0 r2_1 r2_2 hl z1s z2s e3 k3 s3 q3_0 q3_1 q3_2 f3 HE2 HT2 HK2
    go_wp2_with fail
    have f3 := HK3.out.2
    refine bodyPost_ret (v := .agg #[.int .i64 x1, .bool false, .int .u32 x3]) (by simp [results, Try.results57, go_sem, c3_2_0, c3_2_1, c3_2_2]) rfl (Ends.ok E.out ⟨rfl, S3, ?_, ?_⟩)
    · iterate 4 refine Cod.set ?_ (fun h => by have := f3 _ h; omega) _ _
      exact HK3.out.1
    · have := HZ.out
      iterate 4 refine Stp.newly ?_ (by omega) _ _
      exact HT3.out
end Go.Proofs.Ythcfdoafncbliaa
/-
  Rows of structs of three cells: made, copied, read, stored into.
-/
namespace Go.Proofs.Ythcfdoafncbliaa
open Go.RowKit
set_option maxRecDepth 8000
/-- Three cells. -/
abbrev T3 := Value × Value × Value
def cells3 : List T3 → List Value
  | [] => []
  | x :: r => x.1 :: x.2.1 :: x.2.2 :: cells3 r
def One3 (x : T3) : Prop := x.1.oneCell' = true ∧ x.2.1.oneCell' = true ∧ x.2.2.oneCell' = true
theorem cells3_length (xs : List T3) : (cells3 xs).length = xs.length * 3 := by
  induction xs with
  | nil => rfl
  | cons x r ih => simp only [cells3, List.length_cons, ih]; omega
theorem cells3_at (xs : List T3) (i : Nat) (x : T3) (h : xs[i]? = some x) : (cells3 xs)[i * 3]? = some x.1 ∧ (cells3 xs)[i * 3 + 1]? = some x.2.1 ∧ (cells3 xs)[i * 3 + 2]? = some x.2.2 := by
  induction xs generalizing i with
  | nil => simp at h
  | cons y r ih =>
    cases i with
    | zero => simp at h; subst h; exact ⟨rfl, rfl, rfl⟩
    | succ i =>
      have := ih i (by simpa using h)
      have e : (i + 1) * 3 = i * 3 + 1 + 1 + 1 := by omega
      rw [e]
      exact this
theorem cells3_set (xs : List T3) (i : Nat) (x : T3) : cells3 (xs.set i x) = (((cells3 xs).set (i * 3) x.1).set (i * 3 + 1) x.2.1).set (i * 3 + 2) x.2.2 := by
  induction xs generalizing i with
  | nil => rfl
  | cons y r ih =>
    cases i with
    | zero => rfl
    | succ i =>
      have e : (i + 1) * 3 = i * 3 + 1 + 1 + 1 := by omega
      rw [e]
      show y.1 :: y.2.1 :: y.2.2 :: cells3 (r.set i x) = _
      rw [ih]
      rfl
theorem cells3_append (xs ys : List T3) : cells3 (xs ++ ys) = cells3 xs ++ cells3 ys := by
  induction xs with
  | nil => rfl
  | cons x r ih => simp only [List.cons_append, cells3, ih]
theorem cells3_take (xs : List T3) (k : Nat) : (cells3 xs).take (k * 3) = cells3 (xs.take k) := by
  induction xs generalizing k with
  | nil => simp [cells3]
  | cons x r ih =>
    cases k with
    | zero => simp [cells3]
    | succ k =>
      have e : (k + 1) * 3 = k * 3 + 1 + 1 + 1 := by omega
      rw [e]
      simp only [cells3, List.take_succ_cons, ih]
theorem cells3_drop (xs : List T3) (k : Nat) : (cells3 xs).drop (k * 3) = cells3 (xs.drop k) := by
  induction xs generalizing k with
  | nil => simp [cells3]
  | cons x r ih =>
    cases k with
    | zero => simp
    | succ k =>
      have e : (k + 1) * 3 = k * 3 + 1 + 1 + 1 := by omega
      rw [e]
      simp only [cells3, List.drop_succ_cons, ih]
theorem cells3_one {xs : List T3} (h : ∀ x ∈ xs, One3 x) : ∀ v ∈ cells3 xs, v.oneCell' = true := by
  induction xs with
  | nil => intro v hv; cases hv
  | cons x r ih =>
    intro v hv
    have hx := h x (List.mem_cons_self ..)
    simp only [cells3, List.mem_cons] at hv
    rcases hv with rfl | rfl | rfl | hv
    · exact hx.1
    · exact hx.2.1
    · exact hx.2.2
    · exact ih (fun y hy => h y (List.mem_cons_of_mem _ hy)) v hv
theorem made3 (x y z : Value) (k : Nat) : madeCells #[x, y, z] (k * 3) = (cells3 (List.replicate k (x, y, z))).toArray := by
  apply Array.ext'
  apply List.ext_getElem?
  intro j
  by_cases hj : j < k * 3
  · obtain ⟨i, t, ht, rfl⟩ : ∃ i t, t < 3 ∧ j = i * 3 + t := ⟨j / 3, j % 3, by omega, by omega⟩
    have hi : i < k := by omega
    obtain ⟨e0, e1, e2⟩ := cells3_at (List.replicate k (x, y, z)) i (x, y, z) (by simp [hi])
    have hm : (i * 3 + t) % 3 = t := by omega
    have : t = 0 ∨ t = 1 ∨ t = 2 := by omega
    rcases this with rfl | rfl | rfl
    · simp only [Nat.add_zero] at *; rw [show ((cells3 (List.replicate k (x, y, z))).toArray.toList)[i * 3]? = some x from e0]; simp [madeCells]; exact ⟨i * 3, List.getElem?_range hj, by rw [hm]; rfl⟩
    · rw [show ((cells3 (List.replicate k (x, y, z))).toArray.toList)[i * 3 + 1]? = some y from e1]; simp [madeCells]; exact ⟨i * 3 + 1, List.getElem?_range hj, by rw [hm]; rfl⟩
    · rw [show ((cells3 (List.replicate k (x, y, z))).toArray.toList)[i * 3 + 2]? = some z from e2]; simp [madeCells]; exact ⟨i * 3 + 2, List.getElem?_range hj, by rw [hm]; rfl⟩
  · have h2 := cells3_length (List.replicate k (x, y, z))
    rw [List.length_replicate] at h2
    rw [List.getElem?_eq_none (by simp [madeCells]; omega), List.getElem?_eq_none (by simp; omega)]
/-- Structs lie where a slice of n places leads. -/
def RowT (w : World) (a : Option Addr) (n : Nat) (xs : List T3) : Prop :=
  xs.length = n ∧ ∀ i, i < n → ∃ b off x, a = some ⟨b, off, none⟩ ∧ b < w.heap.size ∧ xs[i]? = some x ∧ w.cell? ⟨b, off + i * 3, none⟩ = some x.1 ∧ w.cell? ⟨b, off + i * 3 + 1, none⟩ = some x.2.1 ∧ w.cell? ⟨b, off + i * 3 + 2, none⟩ = some x.2.2
theorem RowT.but {S : Nat → Prop} {w w' : World} {a n xs} (h : RowT w a n xs) (hb : But S w w') (hn : ∀ y, a = some y → 0 < n → ¬ S y.block) : RowT w' a n xs :=
  ⟨h.1, fun i hi => by
    obtain ⟨b, off, x, e, hl, hx, h1, h2, h3⟩ := h.2 i hi
    have := hn _ e (by omega)
    exact ⟨b, off, x, e, Nat.lt_of_lt_of_le hl hb.size, hx, by rw [hb.cell hl this]; exact h1, by rw [hb.cell hl this]; exact h2, by rw [hb.cell hl this]; exact h3⟩⟩
theorem RowT.after {w w' : World} {a n xs} (h : RowT w a n xs) (hb : After w w') : RowT w' a n xs := h.but hb (fun _ _ _ t => t)
theorem RowT.nil (w : World) (a : Option Addr) : RowT w a 0 [] := ⟨rfl, fun i hi => absurd hi (by omega)⟩
theorem cell_blk {w : World} {b i : Nat} {A : List Value} {T : TypeId} (h : w.heap[b]? = some (.cells A.toArray T (0, 0))) : w.cell? ⟨b, i, none⟩ = A[i]? := by
  simp [World.cell?, h]
theorem frozen_blk {w : World} {b : Nat} {A : Array Value} {T : TypeId} (h : w.heap[b]? = some (.cells A T (0, 0))) (i : Nat) : w.frozen? ⟨b, i, none⟩ = false := by
  simp [World.frozen?, h]
theorem RowT.of {w : World} {b : Nat} {xs : List T3} {T : TypeId} (h : w.heap[b]? = some (.cells (cells3 xs).toArray T (0, 0))) : RowT w (some ⟨b, 0, none⟩) xs.length xs :=
  ⟨rfl, fun i hi => by
    obtain ⟨e0, e1, e2⟩ := cells3_at xs i xs[i] (by simp [hi])
    refine ⟨b, 0, xs[i], rfl, (Array.getElem?_eq_some_iff.1 h).1, by simp [hi], ?_, ?_, ?_⟩
    · rw [cell_blk h, Nat.zero_add]; exact e0
    · rw [cell_blk h, Nat.zero_add]; exact e1
    · rw [cell_blk h, Nat.zero_add]; exact e2⟩
theorem blk_set {w : World} {b i : Nat} {A : List Value} {T : TypeId} (h : w.heap[b]? = some (.cells A.toArray T (0, 0))) (v : Value) : (w.setCell ⟨b, i, none⟩ v).heap[b]? = some (.cells (A.set i v).toArray T (0, 0)) := by
  simp [World.setCell, Array.getElem?_modify, h]
theorem blk_set3 {w : World} {b i : Nat} {xs : List T3} {T : TypeId} (h : w.heap[b]? = some (.cells (cells3 xs).toArray T (0, 0))) (x y z : Value) :
    (((w.setCell ⟨b, i * 3, none⟩ x).setCell ⟨b, i * 3 + 1, none⟩ y).setCell ⟨b, i * 3 + 2, none⟩ z).heap[b]? = some (.cells (cells3 (xs.set i (x, y, z))).toArray T (0, 0)) := by
  rw [cells3_set]
  exact blk_set (blk_set (blk_set h x) y) z
theorem run_copy3 {P : Program} (w : World) (dT sT ty elem : TypeId) (g dLen dCap : Nat) (a : Addr) (sLen sCap : Nat) (cur : Array Value) (t : TypeId) (cs : List Value)
    (hu : P.underlying dT = some (.slice elem)) (hs : (P.info? elem).map (·.size) = some 3)
    (hg : w.heap[g]? = some (.cells cur t (0, 0))) (hn : cs.length = Nat.min sLen dLen * 3)
    (hsrc : ∀ j v, cs[j]? = some v → w.cell? (a.add j) = some v) (hfit : 0 + cs.length ≤ cur.size) (h1 : ∀ v ∈ cs, v.oneCell' = true) :
    (Builtin.copy_ #[dT, sT] ty #[.slice (some ⟨g, 0, none⟩) dLen dCap, .slice (some a) sLen sCap]).run P w =
      .ok (goInt (Nat.min sLen dLen)) (w.setRow g (cur.toList.take 0 ++ cs ++ cur.toList.drop (0 + cs.length)).toArray) := by
  have hl := run_loadCells_list (P := P) w a cs hsrc
  have hst := run_storeCells_at P g 0 t cs 0 cur w hg (by simpa using hfit) h1
  cases hq : P.info? elem with
  | none => simp [hq] at hs
  | some i =>
    have hi : i.size = 3 := by simpa [hq] using hs
    rw [hn] at hl
    simp [Builtin.copy_, run_underlying hu, Builtin.lenOf, Builtin.firstCells, sizeOf, typeInfo, hq, hi, hl]
    have hst' := hst
    simp at hst'
    rw [hst']
    rfl
theorem run_copyAny {P : Program} (w : World) (dT sT ty elem : TypeId) (hu : P.underlying dT = some (.slice elem)) (hsz : (P.info? elem).map (·.size) = some 3)
    (g k kc : Nat) (sp : Option Addr) (sLen sCap : Nat) (t : TypeId) (xs ys : List T3)
    (hg : w.heap[g]? = some (.cells (cells3 xs).toArray t (0, 0))) (hx : xs.length = k) (hy : RowT w sp sLen ys) (h1 : ∀ y ∈ ys, One3 y) (hnil : sp = none → sLen = 0 ∧ sCap = 0) :
    ∃ w', (Builtin.copy_ #[dT, sT] ty #[.slice (some ⟨g, 0, none⟩) k kc, .slice sp sLen sCap]).run P w = .ok (goInt (Nat.min sLen k)) w' ∧ w'.heap[g]? = some (.cells (cells3 (ys.take k ++ xs.drop sLen)).toArray t (0, 0)) ∧ But (One g) w w' := by
  cases sp with
  | none =>
    obtain ⟨rfl, rfl⟩ := hnil rfl
    obtain rfl : ys = [] := List.eq_nil_of_length_eq_zero hy.1
    have hrun := run_copy_nil (P := P) w dT sT ty elem ⟨g, 0, none⟩ k kc hu (by cases h : P.info? elem <;> simp [h] at hsz ⊢)
    rw [show Nat.min 0 k = 0 by simp []]
    exact ⟨w, hrun, by simpa using hg, But.rfl⟩
  | some ad =>
    have hlen : (cells3 (ys.take k)).length = Nat.min sLen k * 3 := by
      rw [cells3_length, List.length_take, hy.1]; congr 1; simp [Nat.min_def]; split <;> split <;> omega
    have hrun := run_copy3 (P := P) w dT sT ty elem g k kc ad sLen sCap (cells3 xs).toArray t (cells3 (ys.take k)) hu hsz hg hlen (fun j v hj => by
      have hjl : j < (cells3 (ys.take k)).length := by
        rcases Nat.lt_or_ge j (cells3 (ys.take k)).length with h' | h'
        · exact h'
        · rw [List.getElem?_eq_none h'] at hj; cases hj
      rw [hlen] at hjl
      have hm : Nat.min sLen k ≤ sLen ∧ Nat.min sLen k ≤ k := ⟨Nat.min_le_left _ _, Nat.min_le_right _ _⟩
      obtain ⟨i, u, hu3, rfl⟩ : ∃ i u, u < 3 ∧ j = i * 3 + u := ⟨j / 3, j % 3, by omega, by omega⟩
      obtain ⟨b, off, x, e, hb, hxi, c0, c1, c2⟩ := hy.2 i (by omega)
      cases e
      obtain ⟨e0, e1, e2⟩ := cells3_at (ys.take k) i x (by rw [List.getElem?_take, if_pos (by omega)]; exact hxi)
      have hadd : ∀ q, (⟨b, off, none⟩ : Addr).add q = ⟨b, off + q, none⟩ := fun q => by unfold Addr.add; split <;> simp_all
      rw [hadd]
      have : u = 0 ∨ u = 1 ∨ u = 2 := by omega
      rcases this with rfl | rfl | rfl
      · rw [Nat.add_zero] at hj ⊢; rw [c0, ← hj, e0]
      · rw [← Nat.add_assoc, c1, ← hj, e1]
      · rw [← Nat.add_assoc, c2, ← hj, e2]) (by
        have := hlen
        have hm : Nat.min sLen k ≤ k := Nat.min_le_right _ _
        have h3 := cells3_length xs
        simp only [List.size_toArray]
        omega) (cells3_one (fun y hy' => h1 y (List.mem_of_mem_take hy')))
    refine ⟨w.setRow g ((cells3 xs).toArray.toList.take 0 ++ cells3 (ys.take k) ++ (cells3 xs).toArray.toList.drop (0 + (cells3 (ys.take k)).length)).toArray, hrun, (by
      have e := setRow_heap w g _ ((cells3 xs).toArray.toList.take 0 ++ cells3 (ys.take k) ++ (cells3 xs).toArray.toList.drop (0 + (cells3 (ys.take k)).length)).toArray t _ hg
      rw [e]
      congr 3
      rw [cells3_append]
      simp only [List.take_zero, List.nil_append, Nat.zero_add, hlen]
      congr 1
      rw [← cells3_drop]
      by_cases hk : sLen ≤ k
      · rw [show Nat.min sLen k = sLen by simp [hk]]
      · have h3 := cells3_length xs
        rw [show Nat.min sLen k = k by simp [Nat.min_def]; omega, List.drop_eq_nil_of_le (by omega), List.drop_eq_nil_of_le (by omega)]), ⟨rfl, rfl, rfl, by simp [World.setRow], fun q _ hq => setRow_other w g q _ (fun h => hq h)⟩⟩
end Go.Proofs.Ythcfdoafncbliaa
/-
  Many numbers of objects, by a coder.
-/
namespace Go.Proofs.Ythcfdoafncbliaa
open Go.RowKit
set_option maxRecDepth 8000
def Bi.t3 (o : Bi) : T3 := (.int .i64 o.h, .bool o.l, .int .u32 o.b)
theorem Bi.one3 (o : Bi) : One3 o.t3 := ⟨rfl, rfl, rfl⟩
def obsL (m : Bool) : List Bi → List Int → Except Int (List Bi × List Int)
  | [], zs => .ok ([], zs)
  | o :: r, zs => thn (obs1 m o zs) fun x zs => thn (obsL m r zs) fun l zs => .ok (x :: l, zs)
/-- As many as n, the first ones of a list, then noughts. -/
def fillOf {α : Type} (n : Nat) (all : List α) (z : α) : List α := all.take n ++ List.replicate (n - all.length) z
theorem fillOf_length {α : Type} (n : Nat) (all : List α) (z : α) : (fillOf n all z).length = n := by
  simp [fillOf]; omega
def lstB (m : Bool) (all : List Bi) (zs : List Int) : Except Int (List Bi × List Int) :=
  thn (num m 2 65535 all.length zs) fun n zs => if n > 64 then .error (stp m 5) else obsL m (fillOf n.toNat all ⟨0, false, 0⟩) zs
theorem obs1_len {m : Bool} {o x : Bi} {zs ys : List Int} (h : obs1 m o zs = .ok (x, ys)) : ys.length ≤ zs.length + 7 := by
  unfold obs1 at h
  cases e1 : num m 2 65535 o.h zs with
  | error c => rw [thn_bad e1] at h; cases h
  | ok v =>
    obtain ⟨v1, z1⟩ := v
    rw [thn_ok e1] at h
    cases e2 : eit m o.l 4 2 z1 with
    | error c => rw [thn_bad e2] at h; cases h
    | ok v =>
      obtain ⟨v2, z2⟩ := v
      rw [thn_ok e2] at h
      have l1 := num_len e1
      have l2 := eit_len e2
      cases v2 with
      | true =>
        cases e3 : num m 4 4294967295 o.b z2 with
        | error c => rw [thn_bad (by simpa using e3)] at h; cases h
        | ok v =>
          obtain ⟨v3, z3⟩ := v
          rw [thn_ok (by simpa using e3)] at h
          have l3 := num_len e3
          cases h; omega
      | false =>
        cases e3 : num m 2 65535 o.b z2 with
        | error c => rw [thn_bad (by simpa using e3)] at h; cases h
        | ok v =>
          obtain ⟨v3, z3⟩ := v
          rw [thn_ok (by simpa using e3)] at h
          have l3 := num_len e3
          cases h; omega
theorem Try.info49 : (Try.prog.info? 49).map (fun i => (i.zero, i.size, i.bytes)) = some (some (.agg #[.int .i64 0, .bool false, .int .u32 0]), 3, 16) := by kernel_rfl
theorem makeB (k : Nat) (hk : k ≤ 64) (w : World) : (Instr.makeSlice 34 (.int .i64 (k : Int)) (.int .i64 (k : Int))).run Try.prog w = .ok (.slice (some ⟨w.heap.size, 0, none⟩) k k) (w.alloc (.cells (cells3 (List.replicate k (Bi.t3 ⟨0, false, 0⟩))).toArray 49)) := by
  obtain ⟨i0, hi, hz0, hz1, hz2⟩ := info_parts Try.info49
  have := run_make (P := Try.prog) w 34 49 i0 _ Try.underlying34 hi hz0 .i64 .i64 k k (by omega) (by omega) (by rw [hz2]; omega) (by omega)
  rw [this, hz1]
  simp only [Int.toNat_natCast]
  rw [show (Value.agg #[.int .i64 0, .bool false, .int .u32 0]).cells = #[.int .i64 0, .bool false, .int .u32 0] from rfl, made3]
  rfl
theorem fill_t3 {k n : Nat} {all : List Bi} (hn : all.length = n) : (all.map Bi.t3).take k ++ (List.replicate k (Bi.t3 ⟨0, false, 0⟩)).drop n = (fillOf k all ⟨0, false, 0⟩).map Bi.t3 := by
  subst hn
  simp [fillOf, List.map_take]
set_option maxHeartbeats 1000000 in
theorem c_listB (w : World) (p q : Option Addr) (m : Bool) (zs : List Int) (S : Nat → Prop) (a : Option Addr) (n c : Nat) (all : List Bi) (cd : Cod w p q m zs S) (hr : RowT w a n (all.map Bi.t3)) (hd : ∀ y, a = some y → 0 < n → ¬ S y.block) (ha : a = none → n = 0 ∧ c = 0) (hl : m = true → zs.length ≤ 990000000) (hb : ∀ o ∈ all, 0 ≤ o.b ∧ o.b < 4294967296) :
    Calls Try.prog 56 #[Co p q, .slice a n c, .int .i64 64, .func (.func 57) #[Co p q] #[]] w fun e w' => Ends (lstB m all zs) (fun l ys => (∃ b, e = .returned (.slice (some ⟨b, 0, none⟩) l.length l.length) ∧ RowT w' (some ⟨b, 0, none⟩) l.length (l.map Bi.t3) ∧ w.heap.size ≤ b) ∧ Went w w' p q m S ys) (fun c => e = .panicked (Halt c) ∧ But S w w') := by
  have hA : After w (w.alloc (.cells #[.pointer p, .pointer q] 65)) := After.rfl.alloc _
  have hn : all.length = n := by have := hr.1; simpa using this
  have b0 := new1 w (.cells #[.pointer p, .pointer q] 65)
  have f0 : Off S w.heap.size (w.heap.size + 1) := Off.old cd.lt _
  have hE : lstB m all zs = thn (num m 2 65535 (n : Int) zs) fun n zs => if n > 64 then .error (stp m 5) else obsL m (fillOf n.toNat all ⟨0, false, 0⟩) zs := by rw [← hn]; rfl
  have H1 := hideIt (c_u16 _ p q m zs S n (cd.after hA) (fun h => by have := hl h; omega))
  have HX := hideIt (And.intro hA (And.intro b0 (And.intro f0 (And.intro hl (And.intro hE (And.intro hr (And.intro hd (And.intro ha (And.intro hb (And.intro cd.bs hn))))))))))
  clear hA b0 f0 hl hE hr hd ha hb cd hn
  go_enter Try.func56, Try.ntmps56
  go_wp2_with fail
  refine H1.out.mono ?_
  clear H1
  intro e w1 h1
  obtain ⟨hA, b0, f0, hl, hE, hr, hd, ha, hb, hbs, hn⟩ := HX.out
  rcases h1.split with ⟨c1, e1, rfl, t⟩ | ⟨x1, z1, e1, rfl, S1, k1, s1⟩
  · exact ⟨rfl, Ends.bad (by rw [hE, thn_bad e1]) ⟨rfl, hA.but.trans t⟩⟩
  have q0 := blk s1.but f0 (Nat.le_refl _) (by omega) b0
  have hx := num_bound e1 hbs (by decide)
  have t1 := num_len e1
  obtain ⟨_, y1, y2, y3, y4⟩ := two_at q0
  by_cases h64 : x1 > 64
  · have H2 := hideIt (c_stop w1 p q m z1 S1 5 k1)
    have HE := hideIt (hE.trans ((thn_ok e1).trans (if_pos h64)))
    have HB := hideIt (hA.but.trans s1.but)
    clear HX h1 hA b0 f0 hl hE hr hd ha hb hbs hn e1 k1 s1 q0 hx t1
    go_wp2_with (go_at_call 26; refine H2.out.mono ?_; rintro e w2 ⟨rfl, h2⟩; have HW := hideIt h2; clear h2)
    exact ⟨rfl, Ends.bad HE.out ⟨rfl, HB.out.trans HW.out.but⟩⟩
  · obtain ⟨k, rfl⟩ := Int.eq_ofNat_of_zero_le hx.1
    have hk : k ≤ 64 := by omega
    have HE := hideIt (hE.trans ((thn_ok e1).trans (if_neg h64)))
    have hmk := makeB k hk
    have h64' : ¬ (64 : Int) < (k : Int) := by omega
    have HT := hideIt (Stp.behind hA s1)
    have HK := hideIt k1
    have HL := hideIt (show m = true → z1.length ≤ 990000002 from fun h => by have := hl h; omega)
    have HR := hideIt (hr.but (hA.but.trans s1.but) hd)
    have HN := hideIt (And.intro ha (And.intro hb hn))
    clear HX h1 hA b0 f0 hl hE hr hd ha hb hbs hn e1 k1 s1 q0 hx t1 h64 hk
    have hsz : (Try.prog.info? 49).map (·.size) = some 3 := by kernel_rfl
    have X1 : ∀ y ∈ all.map Bi.t3, One3 y := fun y hy => by obtain ⟨o, _, rfl⟩ := List.mem_map.1 hy; exact o.one3
    have X2 := HR.out.after (After.rfl.alloc (.cells (cells3 (List.replicate k (Bi.t3 ⟨0, false, 0⟩))).toArray 49))
    have XS := hideIt (And.intro hsz (And.intro X1 X2))
    clear hsz X1 X2
    go_wp2_with fail
    obtain ⟨w2, he2, hg, hb2⟩ := run_copyAny (P := Try.prog) (w1.alloc (.cells (cells3 (List.replicate k (Bi.t3 ⟨0, false, 0⟩))).toArray 49)) 34 34 3 49 Try.underlying34 XS.out.1 w1.heap.size k k a n c 49 (List.replicate k (Bi.t3 ⟨0, false, 0⟩)) (all.map Bi.t3) (new1 _ _) List.length_replicate XS.out.2.2 XS.out.2.1 HN.out.1
    rw [he2]
    clear he2
    have HG := hideIt hg
    have HB2 := hideIt hb2
    clear hg hb2
    obtain ⟨ha, hb, hn⟩ := HN.out
    have hk : k ≤ 64 := by omega
    rw [fill_t3 hn] at HG
    rw [Int.toNat_natCast] at HE
    have hlf := fillOf_length k all (⟨0, false, 0⟩ : Bi)
    have hbf : ∀ o ∈ fillOf k all (⟨0, false, 0⟩ : Bi), 0 ≤ o.b ∧ o.b < 4294967296 := by
      intro o ho
      rcases List.mem_append.1 ho with h | h
      · exact hb o (List.mem_of_mem_take h)
      · rw [(List.mem_replicate.1 h).2]; decide
    obtain ⟨xs, hxs⟩ : ∃ xs, fillOf k all (⟨0, false, 0⟩ : Bi) = xs := ⟨_, rfl⟩
    rw [hxs] at HG HE hlf hbf
    have hS1 : ¬ S1 w1.heap.size := fun h => absurd (HK.out.lt _ h) (by omega)
    have HC2 := hideIt (HK.out.but (T := One w1.heap.size) ((After.rfl.alloc _).but.trans HB2.out) (fun k hk h => hS1 (by rw [← h]; exact hk)))
    have HT2 := hideIt (HT.out.trans (show Stp S1 w1 S1 w2 from ⟨((After.rfl.alloc (.cells (cells3 (List.replicate k (Bi.t3 ⟨0, false, 0⟩))).toArray 49)).but (S := One w1.heap.size) |>.trans HB2.out |>.then (T := Non) But.rfl (fun _ _ t => t.elim)).mono (fun i hi h => absurd hi (by rw [h]; omega)), fun k hk => .inl hk⟩))
    have HO2 := hideIt (show Off S1 w1.heap.size (w1.heap.size + 1) from fun k hk => .inl (HK.out.lt k hk))
    have hs2 : w1.heap.size + 1 ≤ w2.heap.size := by have := HB2.out.size; simpa using this
    have HB := hideIt (show w.heap.size ≤ w1.heap.size from HT.out.but.size)
    obtain ⟨b, hbb⟩ : ∃ b, w1.heap.size = b := ⟨_, rfl⟩
    rw [hbb] at HG HO2 HB hs2 ⊢
    have HE0 := HE
    have HI := hideIt (And.intro hlf (And.intro hbf hs2))
    clear ha hb hn hlf hbf hxs hS1 XS HK HT HN HR hmk hs2 hbb HB2
    go_wp2_with fail
    go_loopw [29] (fun i W => ∃ (j : Nat) (dn rs : List Bi) (ys : List Int) (T : Nat → Prop), j ≤ k ∧ i = .int .i64 j ∧ dn.length = j ∧ (dn ++ rs).length = k ∧ W.heap[b]? = some (.cells (cells3 ((dn ++ rs).map Bi.t3)).toArray 49 (0, 0)) ∧ Cod W p q m ys T ∧ Stp S w T W ∧ Off T b (b + 1) ∧ obsL m xs z1 = thn (obsL m rs ys) (fun l us => .ok (dn ++ l, us)) ∧ (m = true → ys.length ≤ 990000002 + 7 * j) ∧ (∀ o ∈ rs, 0 ≤ o.b ∧ o.b < 4294967296)) (fun i _ => k - (intOf i).toNat)
    case atStart =>
      refine ⟨0, [], xs, z1, S1, Nat.zero_le _, rfl, rfl, HI.out.1, HG.out, HC2.out, HT2.out, HO2.out, ?_, fun h => by have := HL.out h; omega, HI.out.2.1⟩
      cases obsL m xs z1 <;> rfl
    case round =>
      obtain ⟨j, dn, rs, ys, T, hj, rfl, hdn, hlen, hblk, hcod, hstp, hoff, hrun, hln, hbr⟩ := hrel
      by_cases hlt : j < k
      · obtain ⟨o, r, rfl⟩ : ∃ o r, rs = o :: r := by
          cases rs with
          | nil => simp at hlen; omega
          | cons o r => exact ⟨o, r, rfl⟩
        have hat : ((dn ++ o :: r).map Bi.t3)[j]? = some o.t3 := by simp [← hdn]
        obtain ⟨d0, d1, d2⟩ := cells3_at _ j _ hat
        have g0 : wr.cell? ⟨b, j * 3, none⟩ = some (.int .i64 o.h) := by rw [cell_blk hblk]; exact d0
        have g1 : wr.cell? ⟨b, j * 3 + 1, none⟩ = some (.bool o.l) := by rw [cell_blk hblk]; exact d1
        have g2 : wr.cell? ⟨b, j * 3 + 2, none⟩ = some (.int .u32 o.b) := by rw [cell_blk hblk]; exact d2
        have hbl : b < wr.heap.size := (Array.getElem?_eq_some_iff.1 hblk).1
        have hA2 : After wr (wr.alloc (.cells #[.int .i64 o.h, .bool o.l, .int .u32 o.b] 49)) := After.rfl.alloc _
        have H2 := hideIt (c_obs _ p q m ys T o (hcod.after hA2) (fun h => by have := hln h; omega) (hbr o (List.mem_cons_self ..)))
        have hrun' : lstB m all zs = thn (obs1 m o ys) fun x us => thn (thn (obsL m r us) fun l us => .ok (x :: l, us)) fun l us => .ok (dn ++ l, us) := by
          rw [HE.out, hrun]
          show thn (thn (obs1 m o ys) _) _ = _
          cases obs1 m o ys <;> rfl
        have HX := hideIt (And.intro hblk (And.intro hstp (And.intro hoff (And.intro hrun' (And.intro hln (And.intro hbr (And.intro hdn (And.intro hlen (And.intro hA2 hbl)))))))))
        have hjk : (j : Int) < (k : Int) := by omega
        clear hblk hcod hstp hoff hrun hrun' hln hbr hdn hlen hat d0 d1 d2 hA2 HG HL HI HO2 HC2 HT2
        go_wp2_with fail
        refine H2.out.mono ?_
        clear H2
        intro e w3 h3
        obtain ⟨hblk, hstp, hoff, hrun', hln, hbr, hdn, hlen, hA2, hbl'⟩ := HX.out
        rcases h3.split with ⟨c3, e3, rfl, t⟩ | ⟨x, us, e3, rfl, T3, k3, s3⟩
        · exact ⟨rfl, Ends.bad (hrun'.trans (thn_bad e3)) ⟨rfl, hstp.ends (hA2.but.trans t)⟩⟩
        have q3 : w3.heap[b]? = some (.cells (cells3 ((dn ++ o :: r).map Bi.t3)).toArray 49 (0, 0)) := blk s3.but hoff (Nat.le_refl _) (by omega) (new_past _ _ hblk)
        have hat : ((dn ++ o :: r).map Bi.t3)[j]? = some o.t3 := by simp [← hdn]
        obtain ⟨d0, d1, d2⟩ := cells3_at _ j _ hat
        have g0' : w3.cell? ⟨b, j * 3, none⟩ = some (.int .i64 o.h) := by rw [cell_blk q3]; exact d0
        have g1' : w3.cell? ⟨b, j * 3 + 1, none⟩ = some (.bool o.l) := by rw [cell_blk q3]; exact d1
        have g2' : w3.cell? ⟨b, j * 3 + 2, none⟩ = some (.int .u32 o.b) := by rw [cell_blk q3]; exact d2
        have z0 := frozen_blk q3 (j * 3)
        have z1' := frozen_blk q3 (j * 3 + 1)
        have z2' := frozen_blk q3 (j * 3 + 2)
        have hoff3 := hoff.step s3 (by rw [World.size_alloc]; omega)
        have hw : w.heap.size ≤ wr.heap.size := hstp.but.size
        have b3 := blk_set3 (i := j) q3 (.int .i64 x.h) (.bool x.l) (.int .u32 x.b)
        have hset : ((dn ++ o :: r).map Bi.t3).set j (.int .i64 x.h, .bool x.l, .int .u32 x.b) = ((dn ++ [x]) ++ r).map Bi.t3 := by
          subst hdn
          simp [Bi.t3]
        rw [hset] at b3
        have hnb : ¬ T3 b := fun h => by have := hoff3 b h; omega
        have k3' := ((k3.set hnb (j * 3) (.int .i64 x.h)).set hnb (j * 3 + 1) (.bool x.l)).set hnb (j * 3 + 2) (.int .u32 x.b)
        have s3' := hstp.trans (Stp.behind hA2 s3)
        have hbw : w.heap.size ≤ b := HB.out
        have s3'' := ((s3'.newly hbw (j * 3) (.int .i64 x.h)).newly hbw (j * 3 + 1) (.bool x.l)).newly hbw (j * 3 + 2) (.int .u32 x.b)
        have l3 := obs1_len e3
        have hrun3 := hrun'.trans (thn_ok e3)
        have HY := hideIt (And.intro b3 (And.intro k3' (And.intro s3'' (And.intro hoff3 (And.intro hrun3 (And.intro (show m = true → us.length ≤ 990000002 + 7 * (j + 1) from fun h => by have := hln h; omega) (And.intro (fun o' ho' => hbr o' (List.mem_cons_of_mem _ ho')) (And.intro hdn hlen))))))))
        have hbl3 : b < w3.heap.size := (Array.getElem?_eq_some_iff.1 q3).1
        clear HX h3 hblk hstp hoff hrun' hln hbr hdn hlen hA2 hbl' e3 k3 s3 q3 hat d0 d1 d2 hoff3 hw b3 hset hnb k3' s3' hbw s3'' l3 hrun3 HE
        unfold Bi.val
        go_wp2_with fail
        go_roundw
        case rel =>
          obtain ⟨b3, k3, s3, ho3, hr3, hl3, hb3, hdn, hlen⟩ := HY.out
          refine ⟨j + 1, dn ++ [x], r, us, T3, by omega, by go_num, by simp [hdn], by simpa using hlen, b3, k3, s3, ho3, ?_, hl3, hb3⟩
          rw [← HE0.out, hr3]
          cases obsL m r us <;> simp [thn]
        case measure => simp [intOf]; omega
      · obtain rfl : j = k := by omega
        have hrs : rs = [] := by
          have : dn.length + rs.length = j := by simpa using hlen
          exact List.eq_nil_of_length_eq_zero (by omega)
        subst hrs
        have hres : lstB m all zs = .ok (dn, ys) := by rw [HE.out, hrun]; show (Except.ok (dn ++ [], ys) : Except Int (List Bi × List Int)) = _; rw [List.append_nil]
        rw [List.append_nil] at hblk
        have hrow := RowT.of hblk
        rw [List.length_map, hdn] at hrow
        have HY := hideIt (And.intro hres (And.intro hrow (And.intro hcod hstp)))
        have HD := hideIt hdn
        clear hrun hres hblk hrow hcod hstp hoff hln hbr hlen hdn HE HE0 HG HL HI HO2 HC2 HT2
        go_wp2_with fail
        go_ret
        refine Ends.ok HY.out.1 ⟨⟨b, ?_, ?_, HB.out⟩, T, HY.out.2.2.1, HY.out.2.2.2⟩
        · rw [HD.out]; rfl
        · rw [HD.out]; exact HY.out.2.1
end Go.Proofs.Ythcfdoafncbliaa
