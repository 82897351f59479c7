/-
  A ring, over lists alone; where it lies in memory; New, isNone, Len, Lost of package ring.
-/
import Derived.Test.YtajjfklglnefkaaBlk
namespace Go.Proofs.Ytajjfklglnefkaa
open Go.RowKit
set_option maxRecDepth 8000
/-- The numbers that are in; how many were lost since the last Take, and in all. -/
structure Sg where
  l : List Int
  since : Nat
  all : Nat
def Sg.new : Sg := ⟨[], 0, 0⟩
/-- One goes in, of room for n. -/
def Sg.put (n : Nat) (s : Sg) (v : Int) : Sg := if s.l.length < n then ⟨s.l ++ [v], s.since, s.all⟩ else ⟨s.l.drop 1 ++ [v], s.since + 1, s.all + 1⟩
theorem put_room {n : Nat} {s : Sg} (h : s.l.length < n) (v : Int) : s.put n v = ⟨s.l ++ [v], s.since, s.all⟩ := if_pos h
theorem put_full {n : Nat} {x : Int} {r : List Int} {a b : Nat} (h : ¬ (x :: r).length < n) (v : Int) : (Sg.mk (x :: r) a b).put n v = ⟨r ++ [v], a + 1, b + 1⟩ := if_neg h
/-- Places around a ring. -/
theorem around {n f i : Nat} (_h : 0 < n) : ((f + 1) % n + i) % n = (f + (i + 1)) % n := by
  rw [Nat.mod_add_mod]
  congr 1
  omega
theorem mod_two {n x : Nat} (h : x < n + n) : (x < n ∧ x % n = x) ∨ (n ≤ x ∧ x % n = x - n) := by
  rcases Nat.lt_or_ge x n with h' | h'
  · exact .inl ⟨h', Nat.mod_eq_of_lt h'⟩
  · refine .inr ⟨h', ?_⟩
    rw [Nat.mod_eq_sub_mod h', Nat.mod_eq_of_lt (by omega)]
theorem apart_mod {n f i j : Nat} (hf : f < n) (hi : i < n) (hj : j < n) (h : i ≠ j) : (f + i) % n ≠ (f + j) % n := by
  rcases mod_two (n := n) (x := f + i) (by omega) with ⟨_, e⟩ | ⟨_, e⟩ <;> rcases mod_two (n := n) (x := f + j) (by omega) with ⟨_, e'⟩ | ⟨_, e'⟩ <;> omega
/-- A ring lies at p. -/
structure RgX (w : World) (p n : Nat) (s : Sg) (cs : Array Value) (f t : Nat) : Prop where
  at0 : w.heap[p]? = some (.cells cs 82 (0, 0))
  size : cs.size = 21
  nums : ∀ i, i < 16 → ∃ z, cs[i]? = some (.int .i64 z)
  c16 : cs[16]? = some (.int .i64 (n : Int))
  c17 : cs[17]? = some (.int .i64 (f : Int))
  c18 : cs[18]? = some (.int .i64 (s.l.length : Int))
  c19 : cs[19]? = some (.int .i64 (s.all : Int))
  c20 : cs[20]? = some (.int .i64 (t : Int))
  hf : f < n
  hn : n ≤ 16
  hl : s.l.length ≤ n
  ht : t + s.since = s.all
  hall : s.all ≤ 1000000
  ls : ∀ i x, s.l[i]? = some x → cs[(f + i) % n]? = some (.int .i64 x)
def Rg (w : World) (p n : Nat) (s : Sg) : Prop := ∃ cs f t, RgX w p n s cs f t
theorem Rg.but {S : Nat → Prop} {w w' : World} {p n : Nat} {s : Sg} (x : Rg w p n s) (b : But S w w') (hp : ¬ S p) : Rg w' p n s := by
  obtain ⟨cs, f, t, x⟩ := x
  exact ⟨cs, f, t, { x with at0 := (b.block p (Array.getElem?_eq_some_iff.1 x.at0).1 hp).trans x.at0 }⟩
theorem Rg.lt {w : World} {p n : Nat} {s : Sg} (x : Rg w p n s) : p < w.heap.size := by
  obtain ⟨cs, f, t, x⟩ := x
  exact (Array.getElem?_eq_some_iff.1 x.at0).1
abbrev zeroC (n : Int) : Array Value := #[.int .i64 0, .int .i64 0, .int .i64 0, .int .i64 0, .int .i64 0, .int .i64 0, .int .i64 0, .int .i64 0, .int .i64 0, .int .i64 0, .int .i64 0, .int .i64 0, .int .i64 0, .int .i64 0, .int .i64 0, .int .i64 0, .int .i64 n, .int .i64 0, .int .i64 0, .int .i64 0, .int .i64 0]
theorem rg_new {w : World} {p n : Nat} (h : w.heap[p]? = some (.cells (zeroC n) 82 (0, 0))) (h1 : 1 ≤ n) (h2 : n ≤ 16) : Rg w p n Sg.new := by
  refine ⟨_, 0, 0, h, rfl, fun i hi => ?_, rfl, rfl, rfl, rfl, rfl, by omega, h2, Nat.zero_le _, rfl, by decide, fun i x hx => by simp [Sg.new] at hx⟩
  rcases (by omega : i = 0 ∨ i = 1 ∨ i = 2 ∨ i = 3 ∨ i = 4 ∨ i = 5 ∨ i = 6 ∨ i = 7 ∨ i = 8 ∨ i = 9 ∨ i = 10 ∨ i = 11 ∨ i = 12 ∨ i = 13 ∨ i = 14 ∨ i = 15) with rfl | rfl | rfl | rfl | rfl | rfl | rfl | rfl | rfl | rfl | rfl | rfl | rfl | rfl | rfl | rfl
  all_goals exact ⟨0, rfl⟩
theorem rgNew_ok (w : World) (n : Int) (h1 : 1 ≤ n) (h2 : n ≤ 16) : Calls Try.prog 40 #[.int .i64 n] w fun e w' => e = .returned (.tuple #[Ptr w.heap.size, .int .i64 0]) ∧ w' = w.alloc (.cells (zeroC n) 82) := by
  go_enter Try.func40, Try.ntmps40
  go_wp2
  go_ret2
  exact ⟨rfl, rfl⟩
theorem rgNew_no (w : World) (n : Int) (h : n < 1 ∨ 16 < n) : Calls Try.prog 40 #[.int .i64 n] w fun e w' => e = .returned (.tuple #[.pointer none, .int .i64 2]) ∧ w' = w := by
  rcases h with h | h
  · go_enter Try.func40, Try.ntmps40
    go_wp2
    go_ret2
    exact ⟨rfl, rfl⟩
  · have h' : ¬ n < 1 := by omega
    go_enter Try.func40, Try.ntmps40
    go_wp2
    go_ret2
    exact ⟨rfl, rfl⟩
theorem rgNone_no {w : World} {p n : Nat} {s : Sg} (x : Rg w p n s) : Calls Try.prog 41 #[Ptr p] w fun e w' => e = .returned (.bool false) ∧ w' = w := by
  obtain ⟨cs, f, t, x⟩ := x
  have c := blk_cell x.at0 x.c16
  have hn : ¬ (n : Int) = 0 := by have := x.hf; omega
  have hb : ((n : Int) == 0) = false := by simpa using hn
  clear x hn
  go_enter Try.func41, Try.ntmps41
  go_wp2
  go_ret
  exact ⟨rfl, rfl⟩
theorem rgNone_zero {w : World} {p : Nat} (h : w.heap[p]? = some (.cells (zeroC 0) 82 (0, 0))) : Calls Try.prog 41 #[Ptr p] w fun e w' => e = .returned (.bool true) ∧ w' = w := by
  have c := blk_cell (i := 16) (v := .int .i64 0) h rfl
  clear h
  go_enter Try.func41, Try.ntmps41
  go_wp2
  go_ret
  exact ⟨rfl, rfl⟩
theorem rgNone_nil (w : World) : Calls Try.prog 41 #[.pointer none] w fun e w' => e = .returned (.bool true) ∧ w' = w := by
  go_enter Try.func41, Try.ntmps41
  go_wp2
  go_ret
  exact ⟨rfl, rfl⟩
theorem rgLen_any {w : World} {p n : Nat} {s : Sg} (x : Rg w p n s) : Calls Try.prog 43 #[Ptr p] w fun e w' => e = .returned (.int .i64 (s.l.length : Int)) ∧ w' = w := by
  have H := hideIt (rgNone_no x)
  obtain ⟨cs, f, t, x⟩ := x
  have c := blk_cell x.at0 x.c18
  clear x
  go_enter Try.func43, Try.ntmps43
  go_wp2_with (go_at_call 41; refine H.out.mono ?_; rintro e w' ⟨rfl, rfl⟩)
  go_ret
  exact ⟨rfl, rfl⟩
/-- What is none answers so. -/
def NoneR (w : World) (v : Value) : Prop := Calls Try.prog 41 #[v] w fun e w' => e = .returned (.bool true) ∧ w' = w
theorem rgLen_none {w : World} {v : Value} (h : NoneR w v) : Calls Try.prog 43 #[v] w fun e w' => e = .returned (.int .i64 0) ∧ w' = w := by
  unfold NoneR at h
  have H := hideIt h
  clear h
  go_enter Try.func43, Try.ntmps43
  go_wp2_with (go_at_call 41; refine H.out.mono ?_; rintro e w' ⟨rfl, rfl⟩)
  go_ret
  exact ⟨rfl, rfl⟩
theorem rgPut_none {w : World} {v : Value} (h : NoneR w v) (y : Int) : Calls Try.prog 27 #[v, .int .i64 y] w fun e w' => e = .returned (.int .i64 1) ∧ w' = w := by
  unfold NoneR at h
  have H := hideIt h
  clear h
  go_enter Try.func27, Try.ntmps27
  go_wp2_with (go_at_call 41; refine H.out.mono ?_; rintro e w' ⟨rfl, rfl⟩)
  go_ret
  exact ⟨rfl, rfl⟩
theorem rgTake_none {w : World} {v : Value} (h : NoneR w v) : Calls Try.prog 44 #[v] w fun e w' => e = .returned (.tuple #[.int .i64 0, .int .i64 0, .int .i64 1]) ∧ w' = w := by
  unfold NoneR at h
  have H := hideIt h
  clear h
  go_enter Try.func44, Try.ntmps44
  go_wp2_with (go_at_call 41; refine H.out.mono ?_; rintro e w' ⟨rfl, rfl⟩)
  go_ret3
  exact ⟨rfl, rfl⟩
end Go.Proofs.Ytajjfklglnefkaa
