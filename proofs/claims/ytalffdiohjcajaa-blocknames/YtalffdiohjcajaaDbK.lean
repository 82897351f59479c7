/-
  What the statements of this layer use besides: equal bytes, arrays in blocks, bits; devices of which all writes go.
-/
import Derived.Test.YtalffdiohjcajaaDbI
namespace Go.Proofs.Ytalffdiohjcajaa
open Go.RowKit
set_option maxRecDepth 8000
set_option maxHeartbeats 400000 in
theorem eqB_same (a a' : Option Addr) (n c c' : Nat) (zs : List Int) (w : World) (h1 : Row w a n zs) (h2 : Row w a' n zs) (hn : n ≤ 140737488355328) :
    Calls Try.prog 20 #[.slice a n c, .slice a' n c'] w fun e w' => e = .returned (.bool true) ∧ After w w' := by
  have H1 := hideIt h1
  have H2 := hideIt h2
  clear h1 h2
  go_enter Try.func20, Try.ntmps20
  go_wp2
  go_loopw [5] (fun i wr => ∃ k m : Nat, k ≤ n ∧ i = .int .i64 k ∧ wr = w.drewN m) (fun i _ => n - (intOf i).toNat)
  case atStart => exact ⟨0, 0, Nat.zero_le _, rfl, rfl⟩
  case round =>
    obtain ⟨k, m, hk, rfl, rfl⟩ := hrel
    by_cases hlt : k < n
    · obtain ⟨b1, o1, x1, rfl, _, l1, e1, c1⟩ := H1.out.at hlt
      obtain ⟨b2, o2, x2, rfl, _, l2, e2, c2⟩ := H2.out.at hlt
      obtain rfl : x1 = x2 := by omega
      clear l1 e1 l2 e2
      go_wp2
      go_region
      go_wp2
      go_roundw
      case rel => exact ⟨k + 1, m + 1, by omega, by go_num, rfl⟩
      case measure => simp [intOf]; omega
    · go_wp2
      go_ret
      exact ⟨rfl, After.rfl.draws m⟩
/-- An array in a block of its own. -/
def Arr (W : World) (p : Nat) (T : TypeId) (n : Nat) (F : Nat → Value) : Prop := ∃ cs : Array Value, W.heap[p]? = some (.cells cs T (0, 0)) ∧ cs.size = n ∧ ∀ i, i < n → cs[i]? = some (F i)
theorem Arr.lt {W : World} {p : Nat} {T : TypeId} {n : Nat} {F : Nat → Value} (h : Arr W p T n F) : p < W.heap.size := by
  obtain ⟨cs, h, _⟩ := h
  exact blk_lt h
theorem Arr.but {S : Nat → Prop} {W W' : World} {p : Nat} {T : TypeId} {n : Nat} {F : Nat → Value} (h : Arr W p T n F) (b : But S W W') (hn : ¬ S p) : Arr W' p T n F := by
  obtain ⟨cs, h, r⟩ := h
  exact ⟨cs, (b.block p (blk_lt h) hn).trans h, r⟩
theorem Arr.after {W W' : World} {p : Nat} {T : TypeId} {n : Nat} {F : Nat → Value} (h : Arr W p T n F) (b : After W W') : Arr W' p T n F := h.but b (fun t => t)
theorem Arr.cell {W : World} {p : Nat} {T : TypeId} {n : Nat} {F : Nat → Value} (h : Arr W p T n F) {i : Nat} (hi : i < n) : W.cell? ⟨p, i, none⟩ = some (F i) := by
  obtain ⟨cs, h, _, h2⟩ := h
  exact blk_cell h (h2 i hi)
theorem Arr.soft {W : World} {p : Nat} {T : TypeId} {n : Nat} {F : Nat → Value} (h : Arr W p T n F) (i : Nat) : W.frozen? ⟨p, i, none⟩ = false := by
  obtain ⟨cs, h, _⟩ := h
  exact blk_soft h i
theorem Arr.put {W : World} {p : Nat} {T : TypeId} {n : Nat} {F : Nat → Value} (h : Arr W p T n F) {i : Nat} (hi : i < n) (v : Value) : Arr (W.setCell ⟨p, i, none⟩ v) p T n (fun k => if k = i then v else F k) := by
  obtain ⟨cs, h, h1, h2⟩ := h
  refine ⟨_, blk_put h i v, by simp [h1], fun j hj => ?_⟩
  show _ = some (if j = i then v else F j)
  by_cases e : j = i
  · subst e
    rw [set_at (by omega), if_pos rfl]
  · rw [set_off (fun h => e h.symm), if_neg e]
    exact h2 j hj
theorem arr_rep {W : World} {p : Nat} {T : TypeId} (n : Nat) (v : Value) (h : W.heap[p]? = some (.cells (List.replicate n v).toArray T (0, 0))) : Arr W p T n (fun _ => v) :=
  ⟨_, h, by simp, fun i hi => by rw [List.getElem?_toArray, List.getElem?_replicate, if_pos hi]⟩
theorem wrapS (n : Int) (h0 : 0 ≤ n) (h1 : n ≤ 4294967296) : IntKind.i64.wrap n = n := by rw [IntKind.wrap_i64]; omega
theorem bits_powD (n : Int) (e : Nat) (m : Int) (hm : m = ((2 ^ e : Nat) : Int) - 1) (he : e ≤ 32) : Go.bits .and .i64 n m = n % ((2 ^ e : Nat) : Int) := by
  have hp : 2 ^ e ≤ 2 ^ 32 := Nat.pow_le_pow_right (by decide) he
  have hp1 : 1 ≤ 2 ^ e := Nat.one_le_two_pow
  have h7 : (BitVec.ofInt 64 m).toNat = 2 ^ e - 1 := by
    rw [BitVec.toNat_ofInt, hm]
    have : (2 : Nat) ^ 32 = 4294967296 := rfl
    omega
  have key : (BitVec.ofInt 64 n &&& BitVec.ofInt 64 m).toNat = (n % ((2 ^ 64 : Nat) : Int)).toNat % 2 ^ e := by
    rw [BitVec.toNat_and, BitVec.toNat_ofInt, h7, Nat.and_two_pow_sub_one_eq_mod]
  have hd : ((2 ^ e : Nat) : Int) ∣ ((2 ^ 64 : Nat) : Int) := Int.natCast_dvd_natCast.2 (Nat.pow_dvd_pow 2 (by omega))
  show IntKind.i64.wrap ((BitVec.ofInt 64 n &&& BitVec.ofInt 64 m).toNat : Nat) = n % ((2 ^ e : Nat) : Int)
  rw [key]
  have h1 : (((n % ((2 ^ 64 : Nat) : Int)).toNat % 2 ^ e : Nat) : Int) = n % ((2 ^ e : Nat) : Int) := by
    rw [Int.natCast_emod, Int.toNat_of_nonneg (Int.emod_nonneg _ (by decide)), Int.emod_emod_of_dvd n hd]
  rw [h1]
  have h2 := Int.emod_nonneg n (show ((2 ^ e : Nat) : Int) ≠ 0 by omega)
  have h3 := Int.emod_lt_of_pos n (show (0 : Int) < ((2 ^ e : Nat) : Int) by omega)
  have : (2 : Nat) ^ 32 = 4294967296 := rfl
  exact wrapS _ (by omega) (by omega)
theorem and_pow (n : Int) (e : Nat) (he : e ≤ 32) : ∃ k : Nat, k < 2 ^ e ∧ Go.bits .and .i64 n (((2 ^ e : Nat) : Int) - 1) = (k : Int) ∧ (k : Int) = n % ((2 ^ e : Nat) : Int) := by
  have h2 := Int.emod_nonneg n (show ((2 ^ e : Nat) : Int) ≠ 0 by have := @Nat.one_le_two_pow e; omega)
  have h3 := Int.emod_lt_of_pos n (show (0 : Int) < ((2 ^ e : Nat) : Int) by have := @Nat.one_le_two_pow e; omega)
  exact ⟨(n % ((2 ^ e : Nat) : Int)).toNat, by omega, by rw [bits_powD n e _ rfl he]; omega, by omega⟩
theorem and3D (n : Int) : ∃ k : Nat, k < 4 ∧ Go.bits .and .i64 n 3 = (k : Int) ∧ (k : Int) = n % 4 := and_pow n 2 (by decide)
theorem and7D (n : Int) : ∃ k : Nat, k < 8 ∧ Go.bits .and .i64 n 7 = (k : Int) ∧ (k : Int) = n % 8 := and_pow n 3 (by decide)
theorem and15D (n : Int) : ∃ k : Nat, k < 16 ∧ Go.bits .and .i64 n 15 = (k : Int) ∧ (k : Int) = n % 16 := and_pow n 4 (by decide)
theorem and255D (n : Int) : ∃ k : Nat, k < 256 ∧ Go.bits .and .i64 n 255 = (k : Int) ∧ (k : Int) = n % 256 := and_pow n 8 (by decide)
theorem allB_mod (v : Int) : allB (v % 256) = allB v := by unfold allB; rw [Int.emod_emod]
/-- A device of n sectors that is alive and not armed: all that may be written is. -/
structure Runs (x : Dv) (n : Nat) : Prop where
  d : x.dead = false
  l : x.left = -1
  s : x.n = n
theorem Runs.new (n : Nat) : Runs (Dv.new n) n := ⟨rfl, rfl, rfl⟩
theorem Runs.go {x : Dv} {n : Nat} (h : Runs x n) : x.go = x := by unfold Dv.go; rw [h.l]; rfl
theorem Runs.writeE {x : Dv} {n : Nat} (h : Runs x n) {k : Nat} (hk : k < n) {b : List Int} (hb : b.length = 64) : x.writeE k b = 0 := by
  rw [writeE_live h.d, if_pos (show x.may k b from ⟨by omega, by rw [h.s]; omega, hb⟩), h.l, if_neg (by decide)]
theorem Runs.writeS {x : Dv} {n : Nat} (h : Runs x n) {k : Nat} (hk : k < n) {b : List Int} (hb : b.length = 64) : x.writeS k b = x.put k b := by
  rw [writeS_live h.d, if_pos (show x.may k b from ⟨by omega, by rw [h.s]; omega, hb⟩), if_neg (by rw [h.l]; decide), h.go, Int.toNat_natCast]
theorem Runs.put {x : Dv} {n : Nat} (h : Runs x n) (k : Nat) (b : List Int) : Runs (x.put k b) n := ⟨h.d, h.l, h.s⟩
theorem Runs.readE {x : Dv} {n : Nat} (h : Runs x n) {k : Nat} (hk : k < n) : x.readE k = 0 := by
  rw [readE_live h.d, if_pos ⟨by omega, by rw [h.s]; omega⟩]
theorem Runs.flushE {x : Dv} {n : Nat} (h : Runs x n) : x.flushE = 0 := by
  rw [flushE_live h.d, h.l, if_neg (by decide)]
theorem Runs.flushS {x : Dv} {n : Nat} (h : Runs x n) : x.flushS = x.flushed := by
  rw [flushS_live h.d, if_neg (by rw [h.l]; decide), h.go]
theorem put_last (x : Dv) (k : Nat) (b : List Int) (j : Nat) : (x.put k b).last j = if j = k then b else x.last j := by
  unfold Dv.last
  by_cases e : j = k
  · rw [if_pos e]
    exact last_some (if_pos e)
  · rw [if_neg e]
    cases hx : x.wr j with
    | none => exact (last_none ((if_neg e).trans hx)).trans (last_none hx).symm
    | some c => exact (last_some ((if_neg e).trans hx)).trans (last_some hx).symm
/-- A write that goes, and a read. -/
theorem Sole.writes {w0 w : World} {d g m n : Nat} {x : Dv} (s : Sole w0 w d g m x) (r : Runs x n) {k : Nat} (hk : k < n) (q c : Nat) (b : List Int) (hr : Row w (some ⟨q, 0, none⟩) 64 b) (hq : q ≠ d) :
    Calls Try.prog 12 #[Ptr d, .int .i64 k, .slice (some ⟨q, 0, none⟩) 64 c] w fun e w' => e = .returned (.int .i64 0) ∧ Sole w0 w' d g m (x.put k b) ∧ But (InD d g m) w w' := by
  have h := s.dv.write (k : Int) _ 64 c b hr (fun y hy => by cases hy; exact hq)
  rw [r.writeE hk hr.1, r.writeS hk hr.1] at h
  exact h.mono (fun _ _ h => ⟨h.1, s.step h.2.1 h.2.2, h.2.2⟩)
theorem Sole.reads {w0 w : World} {d g m n : Nat} {x : Dv} (s : Sole w0 w d g m x) (r : Runs x n) {k : Nat} (hk : k < n) :
    Calls Try.prog 18 #[Ptr d, .int .i64 k] w fun e w' => ∃ q, e = .returned (.tuple #[.slice (some ⟨q, 0, none⟩) 64 64, .int .i64 0]) ∧ SecAt w' q (x.last k) ∧ w.heap.size ≤ q ∧ After w w' :=
  dvRead_yes s.dv r.d (by rw [r.s]; exact hk)
end Go.Proofs.Ytalffdiohjcajaa
