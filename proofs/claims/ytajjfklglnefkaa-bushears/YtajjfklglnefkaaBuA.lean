/-
  A bus in memory: its block, its listeners' row, their rings; what it stores into; New, isNone, and what is wrong with a topic, a lock, a tick.
-/
import Derived.Test.YtajjfklglnefkaaBuP
import Derived.Test.YtajjfklglnefkaaBrB
import Derived.Test.YtajjfklglnefkaaFoA
import Derived.Deep.RegionHeld3
namespace Go.Proofs.Ytajjfklglnefkaa
open Go.RowKit
set_option maxRecDepth 8000
def liE : Enc Ln where
  k := 2
  enc x := [Ptr x.p, .int .i64 x.t]
  len _ := rfl
  one x u hu := by
    simp only [List.mem_cons, List.not_mem_nil, or_false] at hu
    rcases hu with rfl | rfl <;> rfl
  pos := by decide
/-- What becomes of the blocks that are labelled: none but these is stored into; new ones may be labelled. -/
structure Goes (w w' : World) (o o' : Nat → Nat) : Prop where
  but : But (fun k => o k ≠ 0) w w'
  ext : ∀ k, k < w.heap.size → o' k = o k
theorem Goes.same {w w' : World} {o : Nat → Nat} (h : But (fun k => o k ≠ 0) w w') : Goes w w' o o := ⟨h, fun _ _ => rfl⟩
theorem Goes.rfl {w : World} {o : Nat → Nat} : Goes w w o o := .same But.rfl
theorem Goes.trans {a b c : World} {o o' o'' : Nat → Nat} (h : Goes a b o o') (k : Goes b c o' o'') : Goes a c o o'' :=
  ⟨h.but.then k.but (fun i hi t => by rw [h.ext i hi] at t; exact t), fun i hi => (k.ext i (Nat.lt_of_lt_of_le hi h.but.size)).trans (h.ext i hi)⟩
/-- A bus lies at p; what is its own is labelled: 1 the bus, 2 the listeners' row, 4 and more their rings. -/
structure BuX (w : World) (p : Nat) (o : Nat → Nat) (b : Bz) (cs : Array Value) (v : Value) (xs : List Ln) : Prop where
  at0 : w.heap[p]? = some (.cells cs 58 (0, 0))
  size : cs.size = 12
  c0 : cs[0]? = some (.int .i64 b.n)
  c1 : cs[1]? = some v
  c2 : ∀ i, i < 4 → cs[2 + i * 2]? = some (.bool (frd (b.lk i)))
  c3 : ∀ i, i < 4 → cs[2 + i * 2 + 1]? = some (.int .i64 (whn (b.lk i)))
  c10 : cs[10]? = some (.int .i64 b.fr)
  c11 : cs[11]? = some (.int .i64 b.ck)
  own : ORow liE 65 w 0 v xs
  ls : b.ls = xs.map (fun x => (x.t, x.s))
  rings : ∀ i x, xs[i]? = some x → Rg w x.p 16 x.s ∧ o x.p = 4 + i
  lp : o p = 1
  lv : ∀ k, v.ownBlock = some k → o k = 2
  bnd : ∀ k, o k ≠ 0 → k < w.heap.size
  ok : b.Ok
def Bu (w : World) (p : Nat) (o : Nat → Nat) (b : Bz) : Prop := ∃ cs v xs, BuX w p o b cs v xs
theorem BuX.but {S : Nat → Prop} {w w' : World} {p : Nat} {o : Nat → Nat} {b : Bz} {cs : Array Value} {v : Value} {xs : List Ln} (x : BuX w p o b cs v xs) (h : But S w w') (hs : ∀ k, o k ≠ 0 → ¬ S k) : BuX w' p o b cs v xs :=
  { x with
    at0 := (h.block p (blk_lt x.at0) (hs p (by rw [x.lp]; decide))).trans x.at0
    own := own_but x.own h (fun k hk => hs k (by rw [x.lv k hk]; decide))
    rings := fun i y hy => ⟨(x.rings i y hy).1.but h (hs y.p (by rw [(x.rings i y hy).2]; omega)), (x.rings i y hy).2⟩
    bnd := fun k hk => Nat.lt_of_lt_of_le (x.bnd k hk) h.size }
theorem Bu.but {S : Nat → Prop} {w w' : World} {p : Nat} {o : Nat → Nat} {b : Bz} (x : Bu w p o b) (h : But S w w') (hs : ∀ k, o k ≠ 0 → ¬ S k) : Bu w' p o b := by
  obtain ⟨cs, v, xs, x⟩ := x
  exact ⟨cs, v, xs, x.but h hs⟩
theorem Bu.after {w w' : World} {p : Nat} {o : Nat → Nat} {b : Bz} (x : Bu w p o b) (h : After w w') : Bu w' p o b := x.but h (fun _ _ t => t)
theorem BuX.after {w w' : World} {p : Nat} {o : Nat → Nat} {b : Bz} {cs : Array Value} {v : Value} {xs : List Ln} (x : BuX w p o b cs v xs) (h : After w w') : BuX w' p o b cs v xs := x.but h (fun _ _ t => t)
theorem Bu.lt {w : World} {p : Nat} {o : Nat → Nat} {b : Bz} (x : Bu w p o b) : p < w.heap.size := by
  obtain ⟨cs, v, xs, x⟩ := x
  exact blk_lt x.at0
theorem Bu.bnd {w : World} {p : Nat} {o : Nat → Nat} {b : Bz} (x : Bu w p o b) : ∀ k, o k ≠ 0 → k < w.heap.size := by
  obtain ⟨cs, v, xs, x⟩ := x
  exact x.bnd
theorem Bu.ok {w : World} {p : Nat} {o : Nat → Nat} {b : Bz} (x : Bu w p o b) : b.Ok := by
  obtain ⟨cs, v, xs, x⟩ := x
  exact x.ok
theorem BuX.len {w : World} {p : Nat} {o : Nat → Nat} {b : Bz} {cs : Array Value} {v : Value} {xs : List Ln} (x : BuX w p o b cs v xs) : b.ls.length = xs.length := by rw [x.ls, List.length_map]
/-- A cell of the bus is stored into; what it holds otherwise stays. -/
theorem BuX.put {w : World} {p : Nat} {o : Nat → Nat} {b : Bz} {cs : Array Value} {v : Value} {xs : List Ln} (x : BuX w p o b cs v xs) (i : Nat) (u : Value) :
    (w.setCell ⟨p, i, none⟩ u).heap[p]? = some (.cells (cs.setIfInBounds i u) 58 (0, 0)) ∧ ORow liE 65 (w.setCell ⟨p, i, none⟩ u) 0 v xs ∧ (∀ i' y, xs[i']? = some y → Rg (w.setCell ⟨p, i, none⟩ u) y.p 16 y.s ∧ o y.p = 4 + i') ∧ (∀ k, o k ≠ 0 → k < (w.setCell ⟨p, i, none⟩ u).heap.size) ∧ But (One p) w (w.setCell ⟨p, i, none⟩ u) := by
  have hb := but_one w p i u
  refine ⟨blk_put x.at0 i u, own_but x.own hb (fun k hk e => ?_), fun i' y hy => ⟨(x.rings i' y hy).1.but hb (fun e => ?_), (x.rings i' y hy).2⟩, fun k hk => Nat.lt_of_lt_of_le (x.bnd k hk) hb.size, hb⟩
  · have h1 := x.lv k hk
    have : k = p := e
    rw [this, x.lp] at h1; cases h1
  · have h1 := (x.rings i' y hy).2
    have : y.p = p := e
    rw [this, x.lp] at h1; omega
abbrev busC (n fr : Int) : Array Value := #[.int .i64 n, .slice none 0 0, .bool false, .int .i64 0, .bool false, .int .i64 0, .bool false, .int .i64 0, .bool false, .int .i64 0, .int .i64 fr, .int .i64 0]
def lone (p : Nat) : Nat → Nat := fun k => if k = p then 1 else 0
theorem lone_ne {p k : Nat} (h : lone p k ≠ 0) : k = p := by
  unfold lone at h
  split at h
  · assumption
  · exact absurd rfl h
theorem bu_new {w : World} {p : Nat} {n fr : Int} (h : w.heap[p]? = some (.cells (busC n fr) 58 (0, 0))) (h1 : 1 ≤ n) (h2 : n ≤ 8) (h3 : 1 ≤ fr) (h4 : fr ≤ 100) : Bu w p (lone p) (Bz.new n fr) := by
  refine ⟨_, .slice none 0 0, [], h, rfl, rfl, rfl, fun i hi => ?_, fun i hi => ?_, rfl, rfl, orow_nil liE _ _ _, rfl, (fun i x hx => by simp at hx), if_pos rfl, (fun k hk => by cases hk), fun k hk => by rw [lone_ne hk]; exact blk_lt h, new_ok h1 h2 h3 h4⟩
  · rcases (by omega : i = 0 ∨ i = 1 ∨ i = 2 ∨ i = 3) with rfl | rfl | rfl | rfl <;> rfl
  · rcases (by omega : i = 0 ∨ i = 1 ∨ i = 2 ∨ i = 3) with rfl | rfl | rfl | rfl <;> rfl
theorem buNew_ok (w : World) (n fr : Int) (h1 : 1 ≤ n) (h2 : n ≤ 8) (h3 : 1 ≤ fr) (h4 : fr ≤ 100) : Calls Try.prog 7 #[.int .i64 n, .int .i64 fr] w fun e w' => e = .returned (.tuple #[Ptr w.heap.size, .int .i64 0]) ∧ w' = w.alloc (.cells (busC n fr) 58) := by
  go_enter Try.func7, Try.ntmps7
  go_wp2
  go_ret2
  exact ⟨rfl, rfl⟩
theorem buNew_no (w : World) (n fr : Int) (h : n < 1 ∨ 8 < n ∨ fr < 1 ∨ 100 < fr) : Calls Try.prog 7 #[.int .i64 n, .int .i64 fr] w fun e w' => e = .returned (.tuple #[.pointer none, .int .i64 2]) ∧ w' = w := by
  by_cases a1 : n < 1
  · go_enter Try.func7, Try.ntmps7
    go_wp2
    go_ret2
    exact ⟨rfl, rfl⟩
  by_cases a2 : 8 < n
  · go_enter Try.func7, Try.ntmps7
    go_wp2
    go_ret2
    exact ⟨rfl, rfl⟩
  by_cases a3 : fr < 1
  · go_enter Try.func7, Try.ntmps7
    go_wp2
    go_ret2
    exact ⟨rfl, rfl⟩
  have a4 : 100 < fr := by omega
  clear h
  go_enter Try.func7, Try.ntmps7
  go_wp2
  go_ret2
  exact ⟨rfl, rfl⟩
/-- What is none answers so. -/
def NoneB (w : World) (v : Value) : Prop := Calls Try.prog 28 #[v] w fun e w' => e = .returned (.bool true) ∧ w' = w
theorem noneB_nil (w : World) : NoneB w (.pointer none) := by
  show Calls Try.prog 28 #[.pointer none] w fun e w' => e = .returned (.bool true) ∧ w' = w
  go_enter Try.func28, Try.ntmps28
  go_wp2
  go_ret
  exact ⟨rfl, rfl⟩
theorem noneB_zero {w : World} {p : Nat} (h : w.heap[p]? = some (.cells (busC 0 0) 58 (0, 0))) : NoneB w (Ptr p) := by
  have c := blk_cell (i := 0) (v := .int .i64 0) h rfl
  clear h
  show Calls Try.prog 28 #[Ptr p] w fun e w' => e = .returned (.bool true) ∧ w' = w
  go_enter Try.func28, Try.ntmps28
  go_wp2
  go_ret
  exact ⟨rfl, rfl⟩
theorem buNone_no {w : World} {p : Nat} {o : Nat → Nat} {b : Bz} (x : Bu w p o b) : Calls Try.prog 28 #[Ptr p] w fun e w' => e = .returned (.bool false) ∧ w' = w := by
  obtain ⟨cs, v, xs, x⟩ := x
  have c := blk_cell x.at0 x.c0
  have hn : ¬ b.n = 0 := by have := x.ok.n1; omega
  have hb : (b.n == 0) = false := by simpa using hn
  clear x hn
  go_enter Try.func28, Try.ntmps28
  go_wp2
  go_ret
  exact ⟨rfl, rfl⟩
theorem topic_ok {w : World} {p : Nat} {o : Nat → Nat} {b : Bz} (x : Bu w p o b) {t : Int} (h1 : 0 ≤ t) (h2 : t < b.n) : Calls Try.prog 25 #[Ptr p, .int .i64 t] w fun e w' => e = .returned (.int .i64 0) ∧ w' = w := by
  have H := hideIt (buNone_no x)
  obtain ⟨cs, v, xs, x⟩ := x
  have c := blk_cell x.at0 x.c0
  clear x
  have g1 : ¬ t < 0 := by omega
  have g2 : ¬ b.n ≤ t := by omega
  go_enter Try.func25, Try.ntmps25
  go_wp2_with (go_at_call 28; refine H.out.mono ?_; rintro e w' ⟨rfl, rfl⟩)
  go_ret
  exact ⟨rfl, rfl⟩
theorem topic_no {w : World} {p : Nat} {o : Nat → Nat} {b : Bz} (x : Bu w p o b) {t : Int} (h : t < 0 ∨ b.n ≤ t) : Calls Try.prog 25 #[Ptr p, .int .i64 t] w fun e w' => e = .returned (.int .i64 200) ∧ w' = w := by
  have H := hideIt (buNone_no x)
  obtain ⟨cs, v, xs, x⟩ := x
  have c := blk_cell x.at0 x.c0
  clear x
  by_cases g1 : t < 0
  · clear h
    go_enter Try.func25, Try.ntmps25
    go_wp2_with (go_at_call 28; refine H.out.mono ?_; rintro e w' ⟨rfl, rfl⟩)
    go_ret
    exact ⟨rfl, rfl⟩
  · have g2 : b.n ≤ t := by omega
    clear h
    go_enter Try.func25, Try.ntmps25
    go_wp2_with (go_at_call 28; refine H.out.mono ?_; rintro e w' ⟨rfl, rfl⟩)
    go_ret
    exact ⟨rfl, rfl⟩
theorem topic_none {w : World} {v : Value} (h : NoneB w v) (t : Int) : Calls Try.prog 25 #[v, .int .i64 t] w fun e w' => e = .returned (.int .i64 1) ∧ w' = w := by
  have H := hideIt h
  clear h
  go_enter Try.func25, Try.ntmps25
  go_wp2_with (go_at_call 28; refine Calls.mono H.out ?_; rintro e w' ⟨rfl, rfl⟩)
  go_ret
  exact ⟨rfl, rfl⟩
theorem lock_ok {w : World} {p : Nat} {o : Nat → Nat} {b : Bz} (x : Bu w p o b) {i : Int} (h1 : 0 ≤ i) (h2 : i ≤ 3) : Calls Try.prog 32 #[Ptr p, .int .i64 i] w fun e w' => e = .returned (.int .i64 0) ∧ w' = w := by
  have H := hideIt (buNone_no x)
  clear x
  have g1 : ¬ i < 0 := by omega
  have g2 : ¬ 4 ≤ i := by omega
  go_enter Try.func32, Try.ntmps32
  go_wp2_with (go_at_call 28; refine H.out.mono ?_; rintro e w' ⟨rfl, rfl⟩)
  go_ret
  exact ⟨rfl, rfl⟩
theorem lock_no {w : World} {p : Nat} {o : Nat → Nat} {b : Bz} (x : Bu w p o b) {i : Int} (h : i < 0 ∨ 3 < i) : Calls Try.prog 32 #[Ptr p, .int .i64 i] w fun e w' => e = .returned (.int .i64 2) ∧ w' = w := by
  have H := hideIt (buNone_no x)
  clear x
  by_cases g1 : i < 0
  · clear h
    go_enter Try.func32, Try.ntmps32
    go_wp2_with (go_at_call 28; refine H.out.mono ?_; rintro e w' ⟨rfl, rfl⟩)
    go_ret
    exact ⟨rfl, rfl⟩
  · have g2 : 4 ≤ i := by omega
    clear h
    go_enter Try.func32, Try.ntmps32
    go_wp2_with (go_at_call 28; refine H.out.mono ?_; rintro e w' ⟨rfl, rfl⟩)
    go_ret
    exact ⟨rfl, rfl⟩
theorem lock_none {w : World} {v : Value} (h : NoneB w v) (i : Int) : Calls Try.prog 32 #[v, .int .i64 i] w fun e w' => e = .returned (.int .i64 1) ∧ w' = w := by
  have H := hideIt h
  clear h
  go_enter Try.func32, Try.ntmps32
  go_wp2_with (go_at_call 28; refine Calls.mono H.out ?_; rintro e w' ⟨rfl, rfl⟩)
  go_ret
  exact ⟨rfl, rfl⟩
end Go.Proofs.Ytajjfklglnefkaa
