/-
  One number of an object, one object, by a coder.
-/
import Derived.Test.YtigiakhdaaoljaaCods
namespace Go.Proofs.Ytigiakhdaaoljaa
open Go.RowKit
set_option maxRecDepth 8000
/-- A number of an object. -/
structure Bi where
  h : Int
  l : Bool
  b : Int
/-- An object. -/
structure Ob where
  h : Int
  u : Int
  l : Bool
def Bi.val (o : Bi) : Value := .agg #[.int .i64 o.h, .bool o.l, .int .u32 o.b]
def Ob.val (o : Ob) : Value := .agg #[.int .i64 o.h, .int .i64 o.u, .bool o.l]
/-- A number of an object, gone through. -/
def obs1 (m : Bool) (o : Bi) (zs : List Int) : Except Int (Bi × List Int) :=
  thn (num m 2 65535 o.h zs) fun h zs => thn (eit m o.l 4 2 zs) fun l zs => thn (if l then num m 4 4294967295 o.b zs else num m 2 65535 o.b zs) fun b zs => .ok (⟨h, l, b⟩, zs)
/-- An object, gone through; hs: the handles ahead of it. -/
def obj1 (m : Bool) (hs : List Int) (o : Ob) (zs : List Int) : Except Int (Ob × List Int) :=
  thn (num m 2 65535 o.h zs) fun h zs => if h ∈ hs then .error (stp m 4) else thn (num m 2 65535 o.u zs) fun u zs => thn (eit m o.l 1 0 zs) fun l zs => .ok (⟨h, u, l⟩, zs)
theorem num_bound {m : Bool} {k M : Nat} {v x : Int} {zs ys : List Int} (h : num m k M v zs = .ok (x, ys)) (hb : Bs zs) (hk : 256 ^ k ≤ (M : Int) + 1) : 0 ≤ x ∧ x ≤ M := by
  unfold num at h
  split at h
  · split at h
    · cases h; assumption
    · cases h
  · split at h
    · rename_i hl
      cases h
      have := be_bound hb k hl
      omega
    · cases h
/-- The blocks from n up to m are not a coder's. -/
def Off (S : Nat → Prop) (n m : Nat) : Prop := ∀ k, S k → k < n ∨ m ≤ k
theorem Off.step {S S' : Nat → Prop} {w w' : World} {n m : Nat} (f : Off S n m) (s : Stp S w S' w') (h : m ≤ w.heap.size) : Off S' n m := fun k hk => (s.new k hk).elim (f k) (fun h' => .inr (Nat.le_trans h h'))
theorem Off.old {S : Nat → Prop} {w : World} (h : ∀ k, S k → k < w.heap.size) (m : Nat) : Off S w.heap.size m := fun k hk => .inl (h k hk)
theorem blk {S : Nat → Prop} {w w' : World} {n m k : Nat} {o : Obj} (b : But S w w') (f : Off S n m) (h1 : n ≤ k) (h2 : k < m) (h : w.heap[k]? = some o) : w'.heap[k]? = some o :=
  (b.block k (Array.getElem?_eq_some_iff.1 h).1 (fun hk => (f k hk).elim (fun h' => by omega) (fun h' => by omega))).trans h
theorem new1 (w : World) (a : Obj) : (w.alloc a).heap[w.heap.size]? = some a := heap_alloc_new w a
theorem new_past (w : World) (a : Obj) {k : Nat} {o : Obj} (h : w.heap[k]? = some o) : (w.alloc a).heap[k]? = some o := (Below.heap_alloc _ _ _ (Array.getElem?_eq_some_iff.1 h).1).trans h
theorem new2 (w : World) (a b : Obj) : ((w.alloc a).alloc b).heap[w.heap.size]? = some a ∧ ((w.alloc a).alloc b).heap[w.heap.size + 1]? = some b :=
  ⟨new_past _ _ (new1 w a), by have := new1 (w.alloc a) b; rw [World.size_alloc] at this; exact this⟩
theorem new3 (w : World) (a b c : Obj) : (((w.alloc a).alloc b).alloc c).heap[w.heap.size]? = some a ∧ (((w.alloc a).alloc b).alloc c).heap[w.heap.size + 1]? = some b ∧ (((w.alloc a).alloc b).alloc c).heap[w.heap.size + 1 + 1]? = some c :=
  ⟨new_past _ _ (new2 w a b).1, new_past _ _ (new2 w a b).2, by have := new1 ((w.alloc a).alloc b) c; rw [World.size_alloc, World.size_alloc] at this; exact this⟩
theorem set_far {w : World} {g k : Nat} {x : Value} {o : Nat} {ob : Obj} (h : w.heap[k]? = some ob) (hn : k ≠ g) : (w.setCell ⟨g, o, none⟩ x).heap[k]? = some ob := (Below.heap_setCell _ _ _ _ hn).trans h
theorem Cod.set {w : World} {p q : Option Addr} {m : Bool} {zs : List Int} {S : Nat → Prop} (c : Cod w p q m zs S) {g : Nat} (hg : ¬ S g) (o : Nat) (x : Value) : Cod (w.setCell ⟨g, o, none⟩ x) p q m zs S :=
  c.but (T := One g) (But.set (S := One g) But.rfl ⟨g, o, none⟩ (fun _ => rfl) x) (fun k hk h => hg (by rw [← h]; exact hk))
theorem three_at {w : World} {g : Nat} {T : TypeId} {x y z : Value} (h : w.heap[g]? = some (.cells #[x, y, z] T (0, 0))) :
    g < w.heap.size ∧ w.cell? ⟨g, 0, none⟩ = some x ∧ w.cell? ⟨g, 1, none⟩ = some y ∧ w.cell? ⟨g, 2, none⟩ = some z ∧ w.frozen? ⟨g, 0, none⟩ = false ∧ w.frozen? ⟨g, 1, none⟩ = false ∧ w.frozen? ⟨g, 2, none⟩ = false := by
  refine ⟨(Array.getElem?_eq_some_iff.1 h).1, ?_, ?_, ?_, ?_, ?_, ?_⟩
  · simp [World.cell?, h]
  · simp [World.cell?, h]
  · simp [World.cell?, h]
  · simp [World.frozen?, h]
  · simp [World.frozen?, h]
  · simp [World.frozen?, h]
theorem three_set0 {w : World} {g : Nat} {T : TypeId} {x y z : Value} (h : w.heap[g]? = some (.cells #[x, y, z] T (0, 0))) (v : Value) : (w.setCell ⟨g, 0, none⟩ v).heap[g]? = some (.cells #[v, y, z] T (0, 0)) := by
  simp [World.setCell, Array.getElem?_modify, h]
theorem three_set1 {w : World} {g : Nat} {T : TypeId} {x y z : Value} (h : w.heap[g]? = some (.cells #[x, y, z] T (0, 0))) (v : Value) : (w.setCell ⟨g, 1, none⟩ v).heap[g]? = some (.cells #[x, v, z] T (0, 0)) := by
  simp [World.setCell, Array.getElem?_modify, h]
theorem three_set2 {w : World} {g : Nat} {T : TypeId} {x y z : Value} (h : w.heap[g]? = some (.cells #[x, y, z] T (0, 0))) (v : Value) : (w.setCell ⟨g, 2, none⟩ v).heap[g]? = some (.cells #[x, y, v] T (0, 0)) := by
  simp [World.setCell, Array.getElem?_modify, h]
/-- What is stored into a new block is as if nothing was. -/
theorem But.new {S : Nat → Prop} {w w' : World} (b : But S w w') {g : Nat} (hg : w.heap.size ≤ g) (o : Nat) (x : Value) : But S w (w'.setCell ⟨g, o, none⟩ x) := b.set _ (fun h => absurd h (by simp; omega)) x
theorem Stp.newly {S S' : Nat → Prop} {w w' : World} (b : Stp S w S' w') {g : Nat} (hg : w.heap.size ≤ g) (o : Nat) (x : Value) : Stp S w S' (w'.setCell ⟨g, o, none⟩ x) := ⟨b.but.new hg o x, b.new⟩
theorem c_obs (w : World) (p q : Option Addr) (m : Bool) (zs : List Int) (S : Nat → Prop) (o : Bi) (c : Cod w p q m zs S) (hl : m = true → zs.length ≤ 999999990) (hb : 0 ≤ o.b ∧ o.b < 4294967296) :
    Calls Try.prog 70 #[Co p q, o.val] w fun e w' => Ends (obs1 m o zs) (fun x ys => e = .returned x.val ∧ Went w w' p q m S ys) (fun c => e = .panicked (Halt c) ∧ But S w w') := by
  obtain ⟨oh, ol, ob⟩ := o
  show Calls Try.prog 70 #[Co p q, .agg #[.int .i64 oh, .bool ol, .int .u32 ob]] w _
  have hA : After w (((w.alloc (.cells #[.pointer p, .pointer q] 52)).alloc (.cells #[.int .i64 oh, .bool ol, .int .u32 ob] 46)).alloc (.cells #[.int .i64 0, .bool false, .int .u32 0] 46)) := ((After.rfl.alloc _).alloc _).alloc _
  obtain ⟨b0, b1, b2⟩ := new3 w (.cells #[.pointer p, .pointer q] 52) (.cells #[.int .i64 oh, .bool ol, .int .u32 ob] 46) (.cells #[.int .i64 0, .bool false, .int .u32 0] 46)
  have f0 : Off S w.heap.size (w.heap.size + 3) := Off.old c.lt _
  have HE := hideIt (show obs1 m ⟨oh, ol, ob⟩ zs = thn (num m 2 65535 oh zs) fun h zs => thn (eit m ol 4 2 zs) fun l zs => thn (if l then num m 4 4294967295 ob zs else num m 2 65535 ob zs) fun b zs => .ok (⟨h, l, b⟩, zs) from rfl)
  have H1 := hideIt (c_u16 _ p q m zs S oh (c.after hA) (fun h => by have := hl h; omega))
  have hb' : 0 ≤ ob ∧ ob < 4294967296 := hb
  have hw1 : IntKind.i64.wrap ob = ob := by rw [IntKind.wrap_i64]; omega
  have HX := hideIt (And.intro hA (And.intro b0 (And.intro b1 (And.intro b2 (And.intro f0 hl)))))
  have HB := hideIt hb
  clear hA b0 b1 b2 f0 hl c hb hb'
  go_enter Try.func70, Try.ntmps70
  go_wp2_with fail
  refine H1.out.mono ?_
  clear H1
  intro e w1 h1
  obtain ⟨hA, b0, b1, b2, f0, hl⟩ := HX.out
  rcases h1.split with ⟨c1, e1, rfl, t⟩ | ⟨x1, z1, e1, rfl, S1, k1, s1⟩
  · exact ⟨rfl, Ends.bad (by rw [HE.out, thn_bad e1]) ⟨rfl, hA.but.trans t⟩⟩
  have q1_0 := blk s1.but f0 (by omega) (by omega) b0
  have q1_1 := blk s1.but f0 (by omega) (by omega) b1
  have q1_2 := blk s1.but f0 (by omega) (by omega) b2
  have f1 := f0.step s1 (by simp; try omega)
  obtain ⟨_, c1_0_0, c1_0_1, z1_0_0, z1_0_1⟩ := two_at q1_0
  obtain ⟨_, c1_1_0, c1_1_1, c1_1_2, z1_1_0, z1_1_1, z1_1_2⟩ := three_at q1_1
  obtain ⟨_, c1_2_0, c1_2_1, c1_2_2, z1_2_0, z1_2_1, z1_2_2⟩ := three_at q1_2
  have r1_0 := set_far (g := w.heap.size + 1) (o := 0) (x := .int .i64 x1) q1_0 (by omega)
  have r1_1 := three_set0 q1_1 (.int .i64 x1)
  have r1_2 := set_far (g := w.heap.size + 1) (o := 0) (x := .int .i64 x1) q1_2 (by omega)
  have k1' := k1.set (g := w.heap.size + 1) (fun h => by have := f1 _ h; omega) 0 (.int .i64 x1)
  have t1 := num_len e1
  have HE1 := hideIt (HE.out.trans (thn_ok e1))
  have HT1 := hideIt (Stp.behind hA s1)
  have H2 := hideIt (c_either _ p q m z1 S1 ol 4 2 k1' (fun h => by have := hl h; omega))
  have HX1 := hideIt (And.intro f1 (And.intro r1_0 (And.intro r1_1 (And.intro r1_2 (And.intro t1 (And.intro hl (And.intro s1.but.size hA.size)))))))
  clear HX h1 hA b0 b1 b2 f0 hl e1 k1 s1 q1_0 q1_1 q1_2 f1 r1_0 r1_1 r1_2 k1' t1 HE
  go_wp2_with fail
  refine H2.out.mono ?_
  clear H2
  intro e w2 h2
  obtain ⟨f1, r1_0, r1_1, r1_2, t1, hl, z1s, z2s⟩ := HX1.out
  rw [World.size_alloc, World.size_alloc, World.size_alloc] at z1s
  rcases h2.split with ⟨c2, e2, rfl, t⟩ | ⟨x2, z2, e2, rfl, S2, k2, s2⟩
  · exact ⟨rfl, Ends.bad (by rw [HE1.out, thn_bad e2]) ⟨rfl, (HT1.out.newly (by omega) _ _).ends t⟩⟩
  have q2_0 := blk s2.but f1 (by omega) (by omega) r1_0
  have q2_1 := blk s2.but f1 (by omega) (by omega) r1_1
  have q2_2 := blk s2.but f1 (by omega) (by omega) r1_2
  have f2 := f1.step s2 (by simp [World.setCell]; try omega)
  obtain ⟨_, c2_0_0, c2_0_1, z2_0_0, z2_0_1⟩ := two_at q2_0
  obtain ⟨_, c2_1_0, c2_1_1, c2_1_2, z2_1_0, z2_1_1, z2_1_2⟩ := three_at q2_1
  obtain ⟨_, c2_2_0, c2_2_1, c2_2_2, z2_2_0, z2_2_1, z2_2_2⟩ := three_at q2_2
  have r2_0 := set_far (g := w.heap.size + 1) (o := 1) (x := .bool x2) q2_0 (by omega)
  have r2_1 := three_set1 q2_1 (.bool x2)
  have r2_2 := set_far (g := w.heap.size + 1) (o := 1) (x := .bool x2) q2_2 (by omega)
  have k2' := k2.set (g := w.heap.size + 1) (fun h => by have := f2 _ h; omega) 1 (.bool x2)
  have t2 := eit_len e2
  have HE2 := hideIt (HE1.out.trans (thn_ok e2))
  have HT2 := hideIt ((HT1.out.newly (g := w.heap.size + 1) (by omega) 0 (.int .i64 x1)).trans s2)
  have HK2 := hideIt (And.intro k2' k2.bs)
  have HX2 := hideIt (And.intro f2 (And.intro r2_0 (And.intro r2_1 (And.intro r2_2 (And.intro (show m = true → z2.length ≤ 1000000000 from fun h => by have := hl h; omega) (And.intro s2.but.size z1s))))))
  clear HX1 h2 f1 r1_0 r1_1 r1_2 t1 hl e2 k2 s2 q2_0 q2_1 q2_2 f2 r2_0 r2_1 r2_2 k2' t2 HE1 HT1 z1s z2s c1_0_0 c1_0_1 c1_1_0 c1_1_1 c1_1_2 c1_2_0 c1_2_1 c1_2_2 z1_0_0 z1_0_1 z1_1_0 z1_1_1 z1_1_2 z1_2_0 z1_2_1 z1_2_2
  cases x2 with
  | true =>
    have H3 := hideIt (c_u32 _ p q m z2 S2 ob HK2.out.1 HX2.out.2.2.2.2.1 HB.out.1 HB.out.2)
    go_wp2_with fail
    refine H3.out.mono ?_
    clear H3
    intro e w3 h3
    obtain ⟨f2, r2_0, r2_1, r2_2, hl, z1s, z2s⟩ := HX2.out
    rw [World.size_setCell] at z1s
    rcases h3.split with ⟨c3, e3, rfl, t⟩ | ⟨x3, z3, e3, rfl, S3, k3, s3⟩
    · exact ⟨rfl, Ends.bad (HE2.out.trans (thn_bad e3)) ⟨rfl, (HT2.out.newly (by omega) _ _).ends t⟩⟩
    have q3_0 := blk s3.but f2 (by omega) (by omega) r2_0
    have q3_1 := blk s3.but f2 (by omega) (by omega) r2_1
    have q3_2 := blk s3.but f2 (by omega) (by omega) r2_2
    have f3 := f2.step s3 (by simp [World.setCell]; omega)
    obtain ⟨_, c3_0_0, c3_0_1, z3_0_0, z3_0_1⟩ := two_at q3_0
    obtain ⟨_, c3_1_0, c3_1_1, c3_1_2, z3_1_0, z3_1_1, z3_1_2⟩ := three_at q3_1
    obtain ⟨_, c3_2_0, c3_2_1, c3_2_2, z3_2_0, z3_2_1, z3_2_2⟩ := three_at q3_2
    have E := hideIt (HE2.out.trans (thn_ok e3))
    have HT3 := hideIt ((HT2.out.newly (g := w.heap.size + 1) (by omega) 1 (.bool true)).trans s3)
    have hw3 : IntKind.u32.wrap x3 = x3 := by have := num_bound e3 HK2.out.2 (by decide); rw [IntKind.wrap_u32]; omega
    have HK3 := hideIt (And.intro k3 f3)
    have HZ := hideIt (And.intro s3.but.size (And.intro z1s z2s))
    clear HX2 h3 f2 r2_0 r2_1 r2_2 hl z1s z2s e3 k3 s3 q3_0 q3_1 q3_2 f3 HE2 HT2 HK2
    go_wp2_with fail
    have f3 := HK3.out.2
    refine bodyPost_ret (v := .agg #[.int .i64 x1, .bool true, .int .u32 x3]) (by simp [results, Try.results70, go_sem, c3_2_0, c3_2_1, c3_2_2]) rfl (Ends.ok E.out ⟨rfl, S3, ?_, ?_⟩)
    · iterate 4 refine Cod.set ?_ (fun h => by have := f3 _ h; omega) _ _
      exact HK3.out.1
    · have := HZ.out
      iterate 4 refine Stp.newly ?_ (by omega) _ _
      exact HT3.out
  | false =>
    have H3 := hideIt (c_u16 _ p q m z2 S2 ob HK2.out.1 HX2.out.2.2.2.2.1)
    go_wp2_with fail
    refine H3.out.mono ?_
    clear H3
    intro e w3 h3
    obtain ⟨f2, r2_0, r2_1, r2_2, hl, z1s, z2s⟩ := HX2.out
    rw [World.size_setCell] at z1s
    rcases h3.split with ⟨c3, e3, rfl, t⟩ | ⟨x3, z3, e3, rfl, S3, k3, s3⟩
    · exact ⟨rfl, Ends.bad (HE2.out.trans (thn_bad e3)) ⟨rfl, (HT2.out.newly (by omega) _ _).ends t⟩⟩
    have q3_0 := blk s3.but f2 (by omega) (by omega) r2_0
    have q3_1 := blk s3.but f2 (by omega) (by omega) r2_1
    have q3_2 := blk s3.but f2 (by omega) (by omega) r2_2
    have f3 := f2.step s3 (by simp [World.setCell]; omega)
    obtain ⟨_, c3_0_0, c3_0_1, z3_0_0, z3_0_1⟩ := two_at q3_0
    obtain ⟨_, c3_1_0, c3_1_1, c3_1_2, z3_1_0, z3_1_1, z3_1_2⟩ := three_at q3_1
    obtain ⟨_, c3_2_0, c3_2_1, c3_2_2, z3_2_0, z3_2_1, z3_2_2⟩ := three_at q3_2
    have E := hideIt (HE2.out.trans (thn_ok e3))
    have HT3 := hideIt ((HT2.out.newly (g := w.heap.size + 1) (by omega) 1 (.bool false)).trans s3)
    have hw3 : IntKind.u32.wrap x3 = x3 := by have := num_bound e3 HK2.out.2 (by decide); rw [IntKind.wrap_u32]; omega
    have HK3 := hideIt (And.intro k3 f3)
    have HZ := hideIt (And.intro s3.but.size (And.intro z1s z2s))
    clear HX2 h3 f2 r2_0 r2_1 r2_2 hl z1s z2s e3 k3 s3 q3_0 q3_1 q3_2 f3 HE2 HT2 HK2
    go_wp2_with fail
    have f3 := HK3.out.2
    refine bodyPost_ret (v := .agg #[.int .i64 x1, .bool false, .int .u32 x3]) (by simp [results, Try.results70, go_sem, c3_2_0, c3_2_1, c3_2_2]) rfl (Ends.ok E.out ⟨rfl, S3, ?_, ?_⟩)
    · iterate 4 refine Cod.set ?_ (fun h => by have := f3 _ h; omega) _ _
      exact HK3.out.1
    · have := HZ.out
      iterate 4 refine Stp.newly ?_ (by omega) _ _
      exact HT3.out
end Go.Proofs.Ytigiakhdaaoljaa
