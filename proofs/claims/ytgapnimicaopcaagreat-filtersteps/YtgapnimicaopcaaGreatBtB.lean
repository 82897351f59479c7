/-
  Beats in memory: New, isNone, earliest, kept, Beat and Rate of package beats.
-/
import Derived.Test.YtgapnimicaopcaaGreatBtA
import Derived.Deep.RegionLaw
import Derived.Deep.QuietTactic
import Derived.BigQuiet
namespace Go.Proofs.YtgapnimicaopcaaGreat.L12
open Go.RowKit
set_option maxRecDepth 8000
theorem kp_last {n : Nat} (hn : 0 < n) (s : List Int) : kp n s = lastN (n - 1) s := by
  unfold kp lastN
  rw [show s.length + 1 - n = s.length - (n - 1) by omega]
theorem kp_length {n : Nat} (hn : 0 < n) (s : List Int) : (kp n s).length = min (n - 1) s.length := by
  rw [kp_last hn, lastN_length]
theorem kp_rise {n : Nat} {s : List Int} {t : Int} (hn : 2 ≤ n) (h : Rise s) (ht : Fol s t) : Rise (kp n s ++ [t]) := by
  refine Rise.snoc (h.drop _) ⟨?_, ht.2⟩
  have e : ear (kp n s) = ear s := by rw [kp_last (by omega), ear_last (by omega)]
  rw [e]
  exact ht.1
/-- Beats by n lie at p: at the ticks s, which lie in a block from B on. -/
structure BtX (w : World) (p B n : Nat) (s : List Int) (v : Value) : Prop where
  at0 : w.heap[p]? = some (.cells #[.int .i64 (n : Int), v] 137 (0, 0))
  own : OInts w B v s
  nil : s.length = 0 → v = .slice none 0 0
  hB : p < B
  may : 2 ≤ n ∧ n ≤ 8
  le : s.length ≤ n
  rise : Rise s
theorem BtX.lt {w : World} {p B n : Nat} {s : List Int} {v : Value} (x : BtX w p B n s v) : p < w.heap.size := blk_lt x.at0
theorem BtX.but {S : Nat → Prop} {w w' : World} {p B n : Nat} {s : List Int} {v : Value} (x : BtX w p B n s v) (b : But S w w') (hp : ¬ S p) (hs : ∀ k, v.ownBlock = some k → ¬ S k) : BtX w' p B n s v :=
  { x with at0 := (b.block p (blk_lt x.at0) hp).trans x.at0, own := own_but x.own b hs }
theorem BtX.after {w w' : World} {p B n : Nat} {s : List Int} {v : Value} (x : BtX w p B n s v) (a : After w w') : BtX w' p B n s v := x.but a (fun t => t) (fun _ _ t => t)
/-- Which n may be. -/
def May (n : Int) : Prop := 2 ≤ n ∧ n ≤ 8
theorem btNew_ok (w : World) (n : Int) (h : May n) : Calls Tryz.prog 51 #[.int .i64 n] w fun e w' => e = .returned (.tuple #[Ptr w.heap.size, .int .i64 0]) ∧ w' = w.alloc (.cells #[.int .i64 n, .slice none 0 0] 137) := by
  obtain ⟨h1, h2⟩ := h
  go_enter Tryz.func51, Tryz.ntmps51
  go_wp2
  go_ret2
  exact ⟨rfl, rfl⟩
theorem btNew_no (w : World) (n : Int) (h : ¬ May n) : Calls Tryz.prog 51 #[.int .i64 n] w fun e w' => e = .returned (.tuple #[.pointer none, .int .i64 2]) ∧ w' = w := by
  rcases (by unfold May at h; omega : n < 2 ∨ (¬ n < 2 ∧ 8 < n)) with h1 | ⟨h1, h2⟩
  all_goals
    clear h
    go_enter Tryz.func51, Tryz.ntmps51
    go_wp2
    go_ret2
    exact ⟨rfl, rfl⟩
theorem bt_new {w : World} {p B n : Nat} (hB : p < B) (h : w.heap[p]? = some (.cells #[.int .i64 (n : Int), .slice none 0 0] 137 (0, 0))) (h1 : 2 ≤ n) (h2 : n ≤ 8) : BtX w p B n [] (.slice none 0 0) :=
  ⟨h, own_nil w B, fun _ => rfl, hB, ⟨h1, h2⟩, Nat.zero_le _, Rise.nil⟩
theorem btNone_no {w : World} {p B n : Nat} {s : List Int} {v : Value} (x : BtX w p B n s v) : Calls Tryz.prog 70 #[Ptr p] w fun e w' => e = .returned (.bool false) ∧ w' = w := by
  obtain ⟨_, c, _, _, _⟩ := two_at x.at0
  have hn : ¬ (n : Int) = 0 := by have := x.may; omega
  have hb : ((n : Int) == 0) = false := by simpa using hn
  clear x hn
  go_enter Tryz.func70, Tryz.ntmps70
  go_wp2
  go_ret
  exact ⟨rfl, rfl⟩
theorem btNone_zero {w : World} {p : Nat} {v : Value} (h : w.heap[p]? = some (.cells #[.int .i64 0, v] 137 (0, 0))) : Calls Tryz.prog 70 #[Ptr p] w fun e w' => e = .returned (.bool true) ∧ w' = w := by
  obtain ⟨_, c, _, _, _⟩ := two_at h
  clear h
  go_enter Tryz.func70, Tryz.ntmps70
  go_wp2
  go_ret
  exact ⟨rfl, rfl⟩
theorem btNone_nil (w : World) : Calls Tryz.prog 70 #[.pointer none] w fun e w' => e = .returned (.bool true) ∧ w' = w := by
  go_enter Tryz.func70, Tryz.ntmps70
  go_wp2
  go_ret
  exact ⟨rfl, rfl⟩
/-- What is none answers so. -/
def NoneB (w : World) (v : Value) : Prop := Calls Tryz.prog 70 #[v] w fun e w' => e = .returned (.bool true) ∧ w' = w
theorem btBeat_none {w : World} {v : Value} (h : NoneB w v) (t : Int) : Calls Tryz.prog 67 #[v, .int .i64 t] w fun e w' => e = .returned (.int .i64 1) ∧ w' = w := by
  unfold NoneB at h
  have H := hideIt h
  clear h
  go_enter Tryz.func67, Tryz.ntmps67
  go_wp2_with (go_at_call 70; refine H.out.mono ?_; rintro e w' ⟨rfl, rfl⟩)
  go_ret
  exact ⟨rfl, rfl⟩
theorem btRate_none {w : World} {v : Value} (h : NoneB w v) : Calls Tryz.prog 68 #[v] w fun e w' => e = .returned (.tuple #[.int .i64 0, .bool false]) ∧ w' = w := by
  unfold NoneB at h
  have H := hideIt h
  clear h
  go_enter Tryz.func68, Tryz.ntmps68
  go_wp2_with (go_at_call 70; refine H.out.mono ?_; rintro e w' ⟨rfl, rfl⟩)
  go_ret2
  exact ⟨rfl, rfl⟩
theorem btEar_any {w : World} {p B n : Nat} {s : List Int} {v : Value} (x : BtX w p B n s v) : Calls Tryz.prog 71 #[Ptr p] w fun e w' => e = .returned (.int .i64 (ear s)) ∧ Dr w w' := by
  obtain ⟨_, _, c1, _, _⟩ := two_at x.at0
  by_cases h0 : s.length = 0
  · have hv := x.nil h0
    subst hv
    have he : ear s = 0 := by unfold ear; rw [if_pos h0]
    rw [he]
    clear x h0 he
    go_enter Tryz.func71, Tryz.ntmps71
    go_wp2
    go_ret
    exact ⟨rfl, Dr.rfl⟩
  · obtain ⟨a, c, rfl, ir, -, hc, -⟩ := own_irow x.own
    have he : ear s = s.getD (s.length - 1) 0 + 1 := by unfold ear; rw [if_neg h0]
    have h1 := x.rise.lo (s.length - 1) (by omega)
    have h2 := x.rise.hi (s.length - 1) (by omega)
    have h8 := x.le
    have h9 := x.may.2
    rw [he]
    obtain ⟨b, off, rfl, _, ec⟩ := ir.2 (s.length - 1) (by omega)
    generalize s.getD (s.length - 1) 0 = y at *
    generalize s.length = k at *
    obtain ⟨q, hq⟩ : ∃ q : Nat, q = k - 1 := ⟨_, rfl⟩
    rw [← hq] at ec
    have i1 : (k : Int) - 1 = (q : Int) := by omega
    have i2 : (q : Int) < (k : Int) := by omega
    have i3 : ¬ k = 0 := by omega
    have i4 : (k : Int) ≤ 8 := by omega
    have w1 : IntKind.i64.wrap (q : Int) = (q : Int) := IntWalk.i64_in _ (by omega)
    have w2 : IntKind.i64.wrap (y + 1) = y + 1 := IntWalk.i64_in _ (by omega)
    clear x ir he hq h8 h9 hc h0
    go_enter Tryz.func71, Tryz.ntmps71
    go_wp2
    go_quiet (fail)
    go_wp2
    go_ret
    exact ⟨rfl, _, rfl⟩
end Go.Proofs.YtgapnimicaopcaaGreat.L12
