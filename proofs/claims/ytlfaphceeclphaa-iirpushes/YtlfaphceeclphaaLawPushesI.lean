/-
  IirPushes.
-/
import Derived.Test.YtlfaphceeclphaaIrS
import Derived.Test.YtlfaphceeclphaaIrT
namespace Go.Proofs.Ytlfaphceeclphaa
open Go.RowKit
set_option maxRecDepth 8000
/-- Two slow numbers and another one, of whatever worlds: what their Pushes answer. -/
structure Three (w : World) (zs : List Int) (va vb : Value) (o : Nat) (E : Int) (X : Nat → Int) (S0 S1 S2 : Nat → World → Prop) : Prop where
  a : ∀ j W, j < zs.length → S0 j W → Calls Try.prog 10 #[va, .int .i64 (zs.getD j 0)] W fun e w' => e = .returned (.tuple #[.int .i64 (X j), .int .i64 E]) ∧ S1 j w'
  b : ∀ j W, j < zs.length → S1 j W → Calls Try.prog 11 #[vb, .int .i64 (zs.getD j 0)] W fun e w' => e = .returned (.tuple #[.int .i64 (X j), .int .i64 E]) ∧ S2 j w'
  c : ∀ j W y, j < zs.length → S2 j W → Calls Try.prog 10 #[Ptr o, .int .i64 y] W fun e w' => (∃ z, e = .returned (.tuple #[.int .i64 z, .int .i64 0])) ∧ S0 (j + 1) w'
  aft0 : ∀ j W, S0 j W → After w W
  aft1 : ∀ j W, S1 j W → After w W
  aft2 : ∀ j W, S2 j W → After w W
structure Sok (w W : World) (p N j r : Nat) (oa ob : Option Int) : Prop where
  aft : After w W
  wp : w.heap.size ≤ p
  sz : p + 3 ≤ W.heap.size
  beg : j = 0 → W.heap.size = p + 3 + r
  md : Sl W p (p + 3) N oa
  rm : Rs W (p + 1) N ob
  ot : ∃ t, Sl W (p + 2) (p + 4) 7 t ∧ (t = none → j = 0)
structure Sno (w W : World) (o j : Nat) : Prop where
  aft : After w W
  wp : w.heap.size ≤ o
  beg : j = 0 → W.heap.size = o + 1
  ot : ∃ t, Sl W o (o + 1) 7 t ∧ (t = none → j = 0)
theorem sla_none {N : Nat} {zs : List Int} {j : Nat} (hj : j < zs.length) (h : sla N zs j = none) : j = 0 := by
  cases j with
  | zero => rfl
  | succ q => rw [sla_succ N (by omega)] at h; cases h
theorem three_ok {w : World} {p N : Nat} {zs : List Int} : Three w zs (Ptr p) (Ptr (p + 1)) (p + 2) 0 (slw N zs) (fun j W => Sok w W p N j 0 (sla N zs j) (sla N zs j)) (fun j W => Sok w W p N j 1 (sla N zs (j + 1)) (sla N zs j)) (fun j W => Sok w W p N j 1 (sla N zs (j + 1)) (sla N zs (j + 1))) where
  a := fun j W hj x => by
    refine (irPush_any x.md (fun h => x.beg (sla_none hj h)) (zs.getD j 0)).mono ?_
    rintro e w' ⟨rfl, md', b, hs⟩
    rw [← slw_nxo N hj, ← sla_slw hj] at md'
    rw [← slw_nxo N hj]
    refine ⟨rfl, x.aft.then b (fun i hi t => ?_), x.wp, Nat.le_trans x.sz b.size, fun h => ?_, md', x.rm.but b (fun t => ?_), ?_⟩
    · have := x.wp
      rcases t with t | t <;> omega
    · have h1 := hs (by rw [h, sla_zero])
      have h2 := x.beg h
      omega
    · rcases t with t | t <;> omega
    · obtain ⟨t, ot, ht⟩ := x.ot
      exact ⟨t, ot.but b (fun t => by rcases t with t | t <;> omega) (fun t => by rcases t with t | t <;> omega), ht⟩
  b := fun j W hj x => by
    refine (rsPush_any x.rm (zs.getD j 0)).mono ?_
    rintro e w' ⟨rfl, rm', b, hs⟩
    rw [← slw_nxo N hj, ← sla_slw hj] at rm'
    rw [← slw_nxo N hj]
    refine ⟨rfl, x.aft.then b (fun i hi t => ?_), x.wp, Nat.le_trans x.sz b.size, fun h => ?_, x.md.but b (fun t => ?_) (fun t => ?_), rm', ?_⟩
    · have := x.wp
      have : i = p + 1 := t
      omega
    · rw [hs]; exact x.beg h
    · have : p = p + 1 := t
      omega
    · have : p + 3 = p + 1 := t
      omega
    · obtain ⟨t, ot, ht⟩ := x.ot
      exact ⟨t, ot.but b (fun t => by have : p + 2 = p + 1 := t; omega) (fun t => by have : p + 4 = p + 1 := t; omega), ht⟩
  c := fun j W y hj x => by
    obtain ⟨t, ot, ht⟩ := x.ot
    refine (irPush_any ot (fun h => x.beg (ht h)) y).mono ?_
    rintro e w' ⟨rfl, md', b, hs⟩
    refine ⟨⟨_, rfl⟩, x.aft.then b (fun i hi t => ?_), x.wp, Nat.le_trans x.sz b.size, fun h => absurd h (by omega), x.md.but b (fun t => ?_) (fun t => ?_), x.rm.but b (fun t => ?_), ⟨_, md', fun h => by cases h⟩⟩
    · have := x.wp
      rcases t with t | t <;> omega
    · rcases t with t | t <;> omega
    · rcases t with t | t <;> omega
    · rcases t with t | t <;> omega
  aft0 := fun _ _ x => x.aft
  aft1 := fun _ _ x => x.aft
  aft2 := fun _ _ x => x.aft
theorem three_no {w : World} {o : Nat} {zs : List Int} : Three w zs (.pointer none) (.pointer none) o 1 (fun _ => 0) (fun j W => Sno w W o j) (fun j W => Sno w W o j) (fun j W => Sno w W o j) where
  a := fun j W hj x => (irPush_none (irNone_nil W) _).mono (fun e w' q => ⟨q.1, by rw [q.2]; exact x⟩)
  b := fun j W hj x => (rsPush_nil W _).mono (fun e w' q => ⟨q.1, by rw [q.2]; exact x⟩)
  c := fun j W y hj x => by
    obtain ⟨t, ot, ht⟩ := x.ot
    refine (irPush_any ot (fun h => x.beg (ht h)) y).mono ?_
    rintro e w' ⟨rfl, md', b, hs⟩
    refine ⟨⟨_, rfl⟩, x.aft.then b (fun i hi t => ?_), x.wp, fun h => absurd h (by omega), ⟨_, md', fun h => by cases h⟩⟩
    have := x.wp
    rcases t with t | t <;> omega
  aft0 := fun _ _ x => x.aft
  aft1 := fun _ _ x => x.aft
  aft2 := fun _ _ x => x.aft
/-- What the three calls of New answer. -/
structure Born (w W : World) (K : Int) (va vb : Value) (o : Nat) (E : Int) (W1 W2 W3 : World) : Prop where
  a : Calls Try.prog 8 #[.int .i64 K] W fun e w' => e = .returned (.tuple #[va, .int .i64 E]) ∧ w' = W1
  b : Calls Try.prog 9 #[.int .i64 K] W1 fun e w' => e = .returned (.tuple #[vb, .int .i64 E]) ∧ w' = W2
  c : Calls Try.prog 8 #[.int .i64 7] W2 fun e w' => e = .returned (.tuple #[Ptr o, .int .i64 0]) ∧ w' = W3
theorem born {w W : World} (h : After w W) (K : Int) (zs : List Int) :
    (∃ p W1 W2 W3 X S0 S1 S2, Born w W K (Ptr p) (Ptr (p + 1)) (p + 2) 0 W1 W2 W3 ∧ Three w zs (Ptr p) (Ptr (p + 1)) (p + 2) 0 X S0 S1 S2 ∧ S0 0 W3) ∨
    (∃ o W1 W2 W3 X S0 S1 S2, Born w W K (.pointer none) (.pointer none) o 2 W1 W2 W3 ∧ Three w zs (.pointer none) (.pointer none) o 1 X S0 S1 S2 ∧ S0 0 W3) := by
  have m7 : May ((7 : Nat) : Int) := by unfold May; omega
  by_cases hm : May K
  · left
    obtain ⟨N, rfl⟩ : ∃ N : Nat, K = (N : Int) := ⟨K.toNat, by have := hm.1; omega⟩
    have z1 : (W.alloc (.cells #[.int .i64 (N : Int), .pointer none] 42)).heap.size = W.heap.size + 1 := by simp
    have z2 : ((W.alloc (.cells #[.int .i64 (N : Int), .pointer none] 42)).alloc (.cells #[.int .i64 (N : Int), .bool false, .int .i64 0] 45)).heap.size = W.heap.size + 2 := by simp
    have y1 : (W.alloc (.cells #[.int .i64 (N : Int), .pointer none] 42)).heap[W.heap.size]? = _ := heap_alloc_new W _
    have y2 := heap_alloc_new (W.alloc (.cells #[.int .i64 (N : Int), .pointer none] 42)) (.cells #[.int .i64 (N : Int), .bool false, .int .i64 0] 45)
    have y3 := heap_alloc_new ((W.alloc (.cells #[.int .i64 (N : Int), .pointer none] 42)).alloc (.cells #[.int .i64 (N : Int), .bool false, .int .i64 0] 45)) (.cells #[.int .i64 7, .pointer none] 42)
    have c1 := irNew_ok W N hm
    have c2 := rsNew_ok (W.alloc (.cells #[.int .i64 (N : Int), .pointer none] 42)) N hm
    have c3 := irNew_ok ((W.alloc (.cells #[.int .i64 (N : Int), .pointer none] 42)).alloc (.cells #[.int .i64 (N : Int), .bool false, .int .i64 0] 45)) 7 m7
    rw [z1] at y2 c2
    rw [z2] at y3 c3
    refine ⟨W.heap.size, _, _, _, _, _, _, _, ⟨c1, c2, c3⟩, three_ok (w := w) (p := W.heap.size) (N := N), ?_⟩
    refine ⟨((h.alloc _).alloc _).alloc _, h.size, by simp, fun _ => by simp, ?_, ?_, ⟨none, ⟨y3, m7⟩, fun _ => rfl⟩⟩
    · rw [sla_zero]
      refine ⟨?_, hm⟩
      rw [Below.heap_alloc _ _ _ (by rw [z2]; omega), Below.heap_alloc _ _ _ (by rw [z1]; omega)]
      exact y1
    · rw [sla_zero]
      refine ⟨?_, hm, fun y h => by cases h⟩
      rw [Below.heap_alloc _ _ _ (by rw [z2]; omega)]
      exact y2
  · right
    have c1 := irNew_no W K hm
    have c2 := rsNew_no W K hm
    have c3 := irNew_ok W 7 m7
    refine ⟨W.heap.size, _, _, _, _, _, _, _, ⟨c1, c2, c3⟩, three_no (w := w) (o := W.heap.size), ?_⟩
    exact ⟨h.alloc _, h.size, fun _ => by simp, ⟨none, ⟨heap_alloc_new W _, m7⟩, fun _ => rfl⟩⟩
set_option maxHeartbeats 4000000 in
theorem law_pushesI (w : World) (n : Int) (a : Option Addr) (k c : Nat) (zs : List Int) (hl : IRow w a k zs) (hk : k ≤ 17592186044416) :
    Calls Try.prog 3 #[.int .i64 n, .slice a k c] w fun e w' => e = .returned (.bool true) ∧ After w w' := by
  have hlen := hl.1
  have HL := hideIt hl
  have HN := hideIt hlen
  have k0 : (k : Int) ≤ 17592186044416 := by omega
  clear hl hlen hk
  have hb := born (After.rfl (w := w)) n zs
  rcases hb with ⟨p, W1, W2, W3, X, S0, S1, S2, bn, th, st⟩ | ⟨p, W1, W2, W3, X, S0, S1, S2, bn, th, st⟩
  all_goals
    have BN := hideIt bn
    have TH := hideIt th
    have ST := hideIt st
    clear bn th st
    go_enter Try.func3, Try.ntmps3
    go_wp2_with fail
    refine BN.out.a.mono ?_
    rintro e w' ⟨rfl, rfl⟩
    go_wp2_with fail
    refine BN.out.b.mono ?_
    rintro e w' ⟨rfl, rfl⟩
    go_wp2_with fail
    refine BN.out.c.mono ?_
    rintro e w' ⟨rfl, rfl⟩
    clear BN
    go_wp2_with fail
    go_loopw [11] (fun i wr => ∃ q : Nat, q ≤ k ∧ i = .int .i64 q ∧ S0 q wr) (fun i _ => k - (intOf i).toNat)
    case atStart => exact ⟨0, Nat.zero_le _, rfl, ST.out⟩
    case round =>
      obtain ⟨q, hq, rfl, s0⟩ := hrel
      clear ST
      by_cases hqk : q < k
      · have i3 : (q : Int) < (k : Int) := by omega
        have hqz : q < zs.length := by have := HN.out; omega
        obtain ⟨b, off, rfl, hb, e0⟩ := HL.out.cellAt hqk
        have HE := hideIt (fun W (h : After w W) => (h.cell hb (off + q)).trans e0)
        have f0 := HE.out _ (TH.out.aft0 _ _ s0)
        have HA := hideIt (TH.out.a q _ hqz s0)
        have HBB := hideIt (fun W (s : S1 q W) => TH.out.b q W hqz s)
        have hx : (X q != X q) = false := by simp
        clear e0 s0
        generalize zs.getD q 0 = z at *
        go_wp2_with fail
        refine HA.out.mono ?_
        rintro e w4 ⟨rfl, s1⟩
        have f1 := HE.out _ (TH.out.aft1 _ _ s1)
        have HB := hideIt (HBB.out _ s1)
        clear s1 f0 HA HBB
        go_wp2_with fail
        refine HB.out.mono ?_
        rintro e w5 ⟨rfl, s2⟩
        have f2 := HE.out _ (TH.out.aft2 _ _ s2)
        have HC := hideIt (fun y => TH.out.c q _ y hqz s2)
        clear s2 f1 HB
        go_wp2_with fail
        refine (HC.out _).mono ?_
        rintro e w6 ⟨⟨zz, rfl⟩, s3⟩
        have S3 := hideIt s3
        clear s3 f2 HC
        go_wp2
        go_roundw
        case rel => exact ⟨q + 1, by omega, by go_num, S3.out⟩
        case measure => simp [intOf]; omega
      · have i3 : ¬ (q : Int) < (k : Int) := by omega
        have HW := hideIt (works_any wr)
        have AF := hideIt (TH.out.aft0 _ _ s0)
        clear s0
        go_wp2_with fail
        refine HW.out.mono ?_
        rintro e w2 ⟨rfl, a2⟩
        have HF := hideIt (AF.out.trans a2)
        clear a2 HW
        go_wp2
        go_ret
        exact ⟨rfl, HF.out⟩
end Go.Proofs.Ytlfaphceeclphaa
