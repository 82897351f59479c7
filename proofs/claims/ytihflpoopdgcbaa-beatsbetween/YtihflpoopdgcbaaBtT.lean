/-
  The statements' helpers: Bring, rate, works, over, rising.
-/
import Derived.Test.YtihflpoopdgcbaaBtS
namespace Go.Proofs.Ytihflpoopdgcbaa
open Go.RowKit
set_option maxRecDepth 8000
theorem IRow.cellAt {w : World} {a n zs} (h : IRow w a n zs) {i : Nat} (hi : i < n) : ∃ b off, a = some ⟨b, off, none⟩ ∧ b < w.heap.size ∧ w.cell? ⟨b, off + i, none⟩ = some (.int .i64 (zs.getD i 0)) := h.2 i hi
def broughtTo (i : Int) (m : Nat) : Nat := (i % (m : Int)).toNat
theorem broughtTo_lt (i : Int) {m : Nat} (h : 0 < m) : broughtTo i m < m := by
  unfold broughtTo
  have := Int.emod_lt_of_pos i (show (0 : Int) < (m : Int) by omega)
  have := Int.emod_nonneg i (show (m : Int) ≠ 0 by omega)
  omega
theorem bring_any (i : Int) (m : Nat) (w : World) (_h1 : -9223372036854775808 ≤ i) (_h2 : i ≤ 9223372036854775807) (hm : 0 < m) (hm2 : (m : Int) ≤ 1073741824) :
    Calls Try.prog 15 #[.int .i64 i, .int .i64 m] w fun e w' => e = .returned (.int .i64 (broughtTo i m : Nat)) ∧ w' = w := by
  have hmp : (0 : Int) < (m : Int) := by omega
  have b1 := Int.lt_tmod_of_pos i hmp
  have b2 := Int.tmod_lt_of_pos i hmp
  have m1 := Int.emod_nonneg i (show (m : Int) ≠ 0 by omega)
  have m2 := Int.emod_lt_of_pos i hmp
  have e1 : (0 ≤ i.tmod m ∧ i.tmod m = i % m) ∨ (i.tmod m < 0 ∧ i.tmod m = i % m - m) := by
    by_cases h0 : 0 ≤ i
    · left
      have : i.tmod m = i % m := Int.tmod_eq_emod_of_nonneg h0
      omega
    · have e := Int.tmod_eq_emod (a := i) (b := (m : Int))
      by_cases hd : (m : Int) ∣ i
      · left
        rw [if_pos (.inr hd)] at e
        omega
      · right
        rw [if_neg (by intro h; rcases h with h | h; exact h0 h; exact hd h)] at e
        omega
  have HK := hideIt (show (broughtTo i m : Int) = i % m by unfold broughtTo; omega)
  have hne : ¬ (m : Int) = 0 := by omega
  generalize i % (m : Int) = e at *
  have HE := hideIt e1
  clear e1
  go_enter Try.func15, Try.ntmps15
  go_wp2
  all_goals go_ret
  · exact ⟨ret_int (by have := HK.out; have := HE.out; first | omega | (unfold wrap64; omega)), rfl⟩
  · exact ⟨ret_int (by have := HK.out; have := HE.out; omega), rfl⟩
/-- What rate answers of ticks that rise. -/
def rZ (N : Nat) (l : List Int) : Int := if l.length < 2 then -1 else rt (lastN N l)
theorem rZ_of {N : Nat} (hN : 2 ≤ N) (l : List Int) : (ris (lastN N l) = false ∧ rZ N l = -1) ∨ (ris (lastN N l) = true ∧ rZ N l = rv (lastN N l)) := by
  have hl := lastN_length N l
  unfold rZ ris rv
  by_cases h : l.length < 2
  · left
    rw [if_pos h]
    exact ⟨decide_eq_false (by omega), rfl⟩
  · right
    rw [if_neg h, if_neg (by omega)]
    exact ⟨decide_eq_true (by omega), rfl⟩
set_option maxHeartbeats 1000000 in
theorem rate_any (w : World) (N : Nat) (h : May (N : Nat)) (a : Option Addr) (k c : Nat) (zs : List Int) (hr : IRow w a k zs) (hz : Rise zs) (hk : k ≤ 17592186044416) :
    Calls Try.prog 17 #[.int .i64 (N : Int), .slice a k c] w fun e w' => e = .returned (.int .i64 (rZ N zs)) ∧ After w w' := by
  have HN := hideIt (btNew_ok w N h)
  have hN1 : 2 ≤ N ∧ N ≤ 8 := by have := h.1; have := h.2; omega
  have x0 : BtX (w.alloc (.cells #[.int .i64 (N : Int), .slice none 0 0] 42)) w.heap.size (w.heap.size + 1) N [] (.slice none 0 0) := bt_new (by omega) (heap_alloc_new w _) hN1.1 hN1.2
  have a0 : After w (w.alloc (.cells #[.int .i64 (N : Int), .slice none 0 0] 42)) := After.rfl.alloc _
  have z0 : (w.alloc (.cells #[.int .i64 (N : Int), .slice none 0 0] 42)).heap.size = w.heap.size + 1 := by simp
  have hlen := hr.1
  generalize w.alloc (.cells #[.int .i64 (N : Int), .slice none 0 0] 42) = w1 at HN x0 a0 z0
  have HX := hideIt (And.intro x0 (And.intro a0 z0))
  have HR := hideIt hr
  have HL := hideIt hlen
  have HN1 := hideIt hN1
  have HZ := hideIt hz
  have k0 : (k : Int) ≤ 17592186044416 := by omega
  clear x0 a0 z0 hr hlen h hN1 hz
  go_enter Try.func17, Try.ntmps17
  go_wp2_with fail
  refine HN.out.mono ?_
  rintro e w' ⟨rfl, rfl⟩
  clear HN
  go_wp2_with fail
  go_loopw [7] (fun i wr => ∃ (j : Nat), j ≤ k ∧ i = .int .i64 j ∧ (∃ v, BtX wr w.heap.size (w.heap.size + 1) N (lastN N (zs.take j)) v) ∧ After w wr ∧ w.heap.size + 1 ≤ wr.heap.size) (fun i _ => k - (intOf i).toNat)
  case atStart => exact ⟨0, Nat.zero_le _, rfl, ⟨_, by rw [show lastN N (zs.take 0) = [] by simp [lastN]]; exact HX.out.1⟩, HX.out.2.1, by rw [HX.out.2.2]; exact Nat.le_refl _⟩
  case round =>
    obtain ⟨j, hj, rfl, ⟨v, bt⟩, af, hsz⟩ := hrel
    clear HX
    by_cases hjk : j < k
    · have i1 : (j : Int) < (k : Int) := by omega
      obtain ⟨b, off, rfl, -, e0⟩ := (HR.out.after af).cellAt hjk
      have hjz : j < zs.length := by have := HL.out; omega
      have hfo := HZ.out.fol hjz
      have HB := hideIt (btBeat_any bt hsz (zs.getD j 0))
      rw [(nxt_yes hfo).1, (nxt_yes hfo).2, ← take_snoc hjz] at HB
      have AF := hideIt (And.intro af hsz)
      clear bt af hsz hfo
      generalize zs.getD j 0 = z at *
      go_wp2_with fail
      refine HB.out.mono ?_
      rintro e w2 ⟨rfl, b2, u, bt2, -⟩
      have HF := hideIt (And.intro (⟨u, bt2⟩ : ∃ v, BtX w2 w.heap.size (w.heap.size + 1) N (lastN N (zs.take (j + 1))) v) (And.intro (AF.out.1.then b2 (fun i hi t => by have : i = w.heap.size := t; omega)) (Nat.le_trans AF.out.2 b2.size)))
      clear b2 bt2 HB e0
      go_wp2
      go_roundw
      case rel => exact ⟨j + 1, by omega, by go_num, HF.out⟩
      case measure => simp [intOf]; omega
    · obtain rfl : j = k := by omega
      have i1 : ¬ (j : Int) < (j : Int) := by omega
      have et : zs.take j = zs := List.take_of_length_le (by have := HL.out; omega)
      rw [et] at bt
      have HB := hideIt (btRate_any bt)
      have hrz := rZ_of HN1.out.1 zs
      have AF := hideIt af
      clear bt af hsz et
      generalize rv (lastN N zs) = Y at *
      generalize ris (lastN N zs) = Z at *
      rcases hrz with ⟨hZ, hX⟩ | ⟨hZ, hX⟩
      all_goals
        subst hZ
        have HZX := hideIt hX
        clear hX
        go_wp2_with fail
        refine HB.out.mono ?_
        rintro e w2 ⟨rfl, d2⟩
        have HF := hideIt (AF.out.trans d2.after)
        clear d2 HB AF
        go_wp2
        go_ret
        exact ⟨ret_int HZX.out.symm, HF.out⟩
theorem over_any (d : Nat) (w : World) (h1 : 0 < d) (h2 : (d : Int) ≤ 2147483647) : Calls Try.prog 18 #[.int .i64 d] w fun e w' => e = .returned (.int .i64 (rd 1 d)) ∧ w' = w := by
  have HR := hideIt (show rd 1 d = (1200000 + (d : Int)) / (2 * (d : Int)) from rfl)
  have d1 : (0 : Int) < (d : Int) := by omega
  have d3 : ¬ 2 * (d : Int) = 0 := by omega
  go_enter Try.func18, Try.ntmps18
  go_wp2
  go_ret
  exact ⟨ret_int (by rw [HR.out]), rfl⟩
theorem rate_lit {w : World} (N : Nat) (NI : Int) (hN : NI = (N : Int)) (h : May (N : Nat)) (cs : Array Value) (zs : List Int) (k : Nat) (hk : k = zs.length) (hz : cs.toList = i64s zs) (hri : Rise zs) (hl : k ≤ 100) (y : Int) (hy : rZ N zs = y) :
    Calls Try.prog 17 #[.int .i64 NI, .slice (some ⟨w.heap.size, 0, none⟩) k k] (w.alloc (.cells cs 3)) fun e w' => e = .returned (.int .i64 y) ∧ After w w' := by
  subst hN hy
  have hrow : IRow (w.alloc (.cells cs 3)) (some ⟨w.heap.size, 0, none⟩) k zs := lit_irow (heap_alloc_new w _) hz hk
  refine (rate_any _ N h _ k k _ hrow hri (by omega)).mono ?_
  rintro e w2 ⟨rfl, a2⟩
  exact ⟨rfl, (After.rfl.alloc _).trans a2⟩
/-- Ticks that rise, looked at. -/
def riseB : List Int → Bool
  | [] => true
  | [x] => decide (0 ≤ x) && decide (x ≤ 2147483647)
  | x :: y :: r => decide (0 ≤ x) && decide (x < y) && riseB (y :: r)
theorem rise_of (l : List Int) (h : riseB l = true) : Rise l := by
  induction l with
  | nil => exact Rise.nil
  | cons x r ih =>
    cases r with
    | nil =>
      simp [riseB] at h
      refine ⟨fun i hi => ?_, fun i hi => ?_, fun i hi => ?_⟩
      · obtain rfl : i = 0 := by simpa using hi
        exact h.1
      · obtain rfl : i = 0 := by simpa using hi
        exact h.2
      · exact absurd hi (by simp)
    | cons y r =>
      simp [riseB] at h
      obtain ⟨⟨h1, h2⟩, h3⟩ := h
      have hr := ih h3
      have hy := hr.hi 0 (by simp)
      have hy' : y ≤ 2147483647 := by simpa using hy
      refine ⟨fun i hi => ?_, fun i hi => ?_, fun i hi => ?_⟩
      · cases i with
        | zero => simpa using h1
        | succ i => simpa using hr.lo i (by simpa using hi)
      · cases i with
        | zero => simp; omega
        | succ i => simpa using hr.hi i (by simpa using hi)
      · cases i with
        | zero => simpa using h2
        | succ i => simpa using hr.up i (by simpa using hi)
set_option maxHeartbeats 1000000 in
theorem works_any (w : World) : Calls Try.prog 14 #[] w fun e w' => e = .returned (.bool true) ∧ After w w' := by
  have H1 := hideIt (rate_lit (w := w) 4 4 rfl (by unfold May; omega) #[.int .i64 0] [0] 1 rfl rfl (rise_of _ (by decide)) (by omega) (-1) (by decide))
  have H2 := hideIt (fun W => rate_lit (w := W) 4 4 rfl (by unfold May; omega) #[.int .i64 0, .int .i64 8] [0, 8] 2 rfl rfl (rise_of _ (by decide)) (by omega) 75000 (by decide))
  have H3 := hideIt (fun W => rate_lit (w := W) 4 4 rfl (by unfold May; omega) #[.int .i64 0, .int .i64 8, .int .i64 18, .int .i64 26, .int .i64 36] [0, 8, 18, 26, 36] 5 rfl rfl (rise_of _ (by decide)) (by omega) 64286 (by decide))
  go_enter Try.func14, Try.ntmps14
  go_wp2_with fail
  refine H1.out.mono ?_
  rintro e w1 ⟨rfl, a1⟩
  have A1 := hideIt a1
  clear a1 H1
  go_wp2_with fail
  refine (H2.out _).mono ?_
  rintro e w2 ⟨rfl, a2⟩
  have A2 := hideIt (A1.out.trans a2)
  clear a2 A1 H2
  go_wp2_with fail
  refine (H3.out _).mono ?_
  rintro e w3 ⟨rfl, a3⟩
  have A3 := hideIt (A2.out.trans a3)
  clear a3 A2 H3
  go_wp2
  go_ret
  exact ⟨rfl, A3.out⟩
end Go.Proofs.Ytihflpoopdgcbaa
