/-
  The walk of CrcTogether.
-/
import Derived.Test.YtgdkepanmnmhjaaWorks
import Derived.Test.YtgdkepanmnmhjaaTogP
import Derived.Deep.RegionHeld3
import Derived.Deep.AppendLies
import Derived.Deep.DrawnRows
namespace Go.Proofs.Ytgdkepanmnmhjaa
open Go.RowKit
theorem Row.cut {w : World} {a n zs} (h : Row w a n zs) {k : Nat} (hk : k ≤ n) : Row w a k (zs.take k) :=
  ⟨by rw [List.length_take, h.1]; omega, h.2.1.take k, fun i hi => by
    obtain ⟨b, off, e, hb, hc⟩ := h.2.2 i (by omega)
    exact ⟨b, off, e, hb, by rw [take_at hi]; exact hc⟩⟩
/-- The least of three, as one number. -/
theorem wpList_min3 {P : Program} {w : World} {ops : Array Oper} {rest : List Oper} {o : Oper} {a : Act} {Q : Exit → Act → World → Prop} (hgd : o.guard = none) (s x y : Operand)
    (ho : o.op = .call { callee := .builtin .min, args := #[s, x, y], argTypes := #[3, 3, 3] }) (p q r N : Int) (hs : a.eval s = .int .i64 p) (hx : a.eval x = .int .i64 q) (hy : a.eval y = .int .i64 r)
    (hm : (if r < (if q < p then q else p) then r else (if q < p then q else p)) = N) (h : wpList P ops Q rest (a.put o.dst (.int .i64 N)) w) : wpList P ops Q (o :: rest) a w := by
  refine wpList_plain hgd fun K hK => ?_
  have hrun := run_min_int3 (P := P) (w := w) #[3, 3, 3] o.type .i64 .i64 .i64 p q r
  rw [hm] at hrun
  unfold Oper.wp
  simp [execOp, ho, resolve, invoke, builtin, hs, hx, hy, hrun, Result.andThen]
  exact hK _ _ h
set_option maxRecDepth 100000 in
set_option maxHeartbeats 2000000 in
theorem together_walk (a1 : Option Addr) (n1 c1 : Nat) (z1 : List Int) (a2 : Option Addr) (n2 c2 : Nat) (z2 : List Int) (a3 : Option Addr) (n3 c3 : Nat) (z3 : List Int) (w : World)
    (hr1 : Row w a1 n1 z1) (ha1 : a1 = none → n1 = 0 ∧ c1 = 0) (hr2 : Row w a2 n2 z2) (ha2 : a2 = none → n2 = 0 ∧ c2 = 0) (hr3 : Row w a3 n3 z3) (ha3 : a3 = none → n3 = 0 ∧ c3 = 0)
    (hn1 : n1 ≤ 140737488355328) (_hn2 : n2 ≤ 140737488355328) (_hn3 : n3 ≤ 140737488355328) (hc1 : n1 ≤ c1) (hc2 : n2 ≤ c2) (hc3 : n3 ≤ c3) :
    Calls Try.prog 6 #[.slice a1 n1 c1, .slice a2 n2 c2, .slice a3 n3 c3] w fun e w' => e = .returned (.bool true) ∧ After w w' := by
  obtain ⟨n, hn⟩ : ∃ n, n = min n1 (min n2 n3) := ⟨_, rfl⟩
  have hmin : (if (n3 : Int) < (if (n2 : Int) < (n1 : Int) then (n2 : Int) else (n1 : Int)) then (n3 : Int) else (if (n2 : Int) < (n1 : Int) then (n2 : Int) else (n1 : Int))) = (n : Int) := by
    rw [hn]; split <;> split at * <;> omega
  have l1 : n ≤ n1 := by omega
  have l2 : n ≤ n2 := by omega
  have l3 : n ≤ n3 := by omega
  clear hn
  have H1 := hideIt hr1
  have H2 := hideIt hr2
  have H3 := hideIt hr3
  clear hr1 hr2 hr3
  go_enter Try.func6, Try.ntmps6
  go_wp2_with fail
  refine (awake_any _).mono ?_
  rintro e w1 ⟨rfl, h1⟩
  have A1 := hideIt h1
  clear h1
  have HM := hideIt hmin
  clear hmin
  go_wp2_with (refine wpList_min3 rfl (.tmp 14) (.tmp 16) (.tmp 18) rfl (n1 : Int) (n2 : Int) (n3 : Int) (n : Int) rfl rfl rfl HM.out ?_)
  obtain ⟨X, hX⟩ : ∃ X, X = xors (z1.take n) (z2.take n) (z3.take n) := ⟨_, rfl⟩
  have HX := hideIt hX
  have X1 : Hid (∀ k, k < n → u8s (X.take (k + 1)) = u8s (X.take k) ++ [.int .u8 (((z1.getD k 0).toNat ^^^ (z2.getD k 0).toNat ^^^ (z3.getD k 0).toNat : Nat) : Int)]) := fun k hk => by
    have q1 : (z1.take n).length = n := by rw [List.length_take, H1.out.1]; omega
    have q2 : (z2.take n).length = n := by rw [List.length_take, H2.out.1]; omega
    have q3 : (z3.take n).length = n := by rw [List.length_take, H3.out.1]; omega
    have ql : X.length = n := by rw [hX]; exact xors_len q1 q2 q3
    have e := xors_at (k := k) (a := z1.take n) (b := z2.take n) (c := z3.take n) (by omega) (by omega) (by omega)
    rw [take_at hk, take_at hk, take_at hk, ← hX] at e
    rw [take_more (by omega), e]
    unfold u8s
    rw [List.map_append]; rfl
  clear hX
  obtain ⟨i0, hi, hz0, hz1, hz2⟩ := info_parts Try.info5
  go_loopw [8, 9] (fun v i W => ∃ k : Nat, k ≤ n ∧ i = .int .i64 k ∧ W.ownsRow w.heap.size 5 1 v k (u8s (X.take k)) ∧ After w W) (fun _ i _ => n - (intOf i).toNat)
  case atStart => exact ⟨0, by omega, rfl, World.ownsRow_nil _ _ _ _, A1.out⟩
  case round =>
    obtain ⟨k, hk, rfl, ho, hA⟩ := hrel
    by_cases hlt : k < n
    · obtain ⟨b1, o1, x1, rfl, hb1, e1, g1, q1⟩ := H1.out.at (show k < n1 by omega)
      obtain ⟨b2, o2, x2, rfl, hb2, e2, g2, q2⟩ := H2.out.at (show k < n2 by omega)
      obtain ⟨b3, o3, x3, rfl, hb3, e3, g3, q3⟩ := H3.out.at (show k < n3 by omega)
      rw [← hA.cell.1 _ _ hb1] at q1
      rw [← hA.cell.1 _ _ hb2] at q2
      rw [← hA.cell.1 _ _ hb3] at q3
      have hX := X1.out k hlt
      rw [g1, g2, g3, Int.toNat_natCast, Int.toNat_natCast, Int.toNat_natCast] at hX
      have hx1 : bits .xor .u8 (x1 : Int) (x2 : Int) = ((x1 ^^^ x2 : Nat) : Int) := u8_xor_nat x1 x2 e1 e2
      have hx2 : bits .xor .u8 ((x1 ^^^ x2 : Nat) : Int) (x3 : Int) = ((x1 ^^^ x2 ^^^ x3 : Nat) : Int) := u8_xor_nat (x1 ^^^ x2) x3 (x8 e1 e2) e3
      generalize x1 ^^^ x2 ^^^ x3 = y at *
      generalize x1 ^^^ x2 = y1 at *
      have HO := hideIt ho
      have HX2 := hideIt hX
      have HA := hideIt hA
      have ne1 : u8.ownBlock ≠ some b1 := fun h => by have := (ho.lt b1 h).1; omega
      have ne2 : u8.ownBlock ≠ some b2 := fun h => by have := (ho.lt b2 h).1; omega
      have ne3 : u8.ownBlock ≠ some b3 := fun h => by have := (ho.lt b3 h).1; omega
      have t1 : b1 < wr.heap.size := Nat.lt_of_lt_of_le hb1 (After.size hA)
      have t2 : b2 < wr.heap.size := Nat.lt_of_lt_of_le hb2 (After.size hA)
      have t3 : b3 < wr.heap.size := Nat.lt_of_lt_of_le hb3 (After.size hA)
      have k0 : (0 : Int) ≤ (k : Int) := by omega
      have k1 : (k : Int) < (n1 : Int) := by omega
      have k2 : (k : Int) < (n2 : Int) := by omega
      have k3 : (k : Int) < (n3 : Int) := by omega
      have kn : (k : Int) < (n : Int) := by omega
      clear hX ho hA g1 g2 g3 e1 e2 e3
      go_wp2_with fail
      go_region_held3 (fun W => W.cell? ⟨b1, o1 + k, none⟩ = some (.int .u8 x1) ∧ W.cell? ⟨b2, o2 + k, none⟩ = some (.int .u8 x2) ∧ W.cell? ⟨b3, o3 + k, none⟩ = some (.int .u8 x3))
        (first
          | go_keep
          | (go_split_ands
             refine ⟨?_, ?_, ?_⟩
             · (rw [hgrow.cell_far _ (by simp; omega) (Ne.symm ne1)]; assumption)
             · (rw [hgrow.cell_far _ (by simp; omega) (Ne.symm ne2)]; assumption)
             · (rw [hgrow.cell_far _ (by simp; omega) (Ne.symm ne3)]; assumption)))
        ((refine step_append_lies _ (by rfl) _ _ _ (by rfl) w.heap.size 5 i0 _ 1 1 Try.underlying22 hi hz0 hz1 hz2 rfl (by omega) u8 k (u8s (X.take k)) (by rfl) ((HO.out.alloc _).drew)
            ⟨wr.heap.size, 0, none⟩ 1 1 [.int .u8 y] (by rfl) (by rfl) (World.news_of_block (cs := #[.int .u8 y]) (t := 5) (fr := (0, 0)) (heap_alloc_new wr _)) (by simp [Value.oneCell'])
            (by omega) (by unfold maxLen; omega) (by omega) (by have := After.size HA.out; simp; omega) (wr.heap.size + 1) (by simp) ?_; intro gg cap w2 hown1 hgrow hat hlt2))
      have hB : After w w2 := After.of (Below.grown (Below.drew (HA.out.alloc (.cells #[.int .u8 y] 5))) hgrow (by have := After.size HA.out; simp; omega) (fun j hj => (HO.out.lt j hj).1))
      rw [← HX2.out] at hown1
      have HO2 := hideIt hown1
      have HB := hideIt hB
      clear hown1 hgrow hat hlt2 hB
      go_wp2
      go_roundw
      case rel => exact ⟨k + 1, by omega, by go_num, HO2.out, HB.out⟩
      case measure => simp [intOf]; omega
    · obtain rfl : k = n := by omega
      have r1 : Row wr a1 k (z1.take k) := (H1.out.cut l1).after hA
      have r2 : Row wr a2 k (z2.take k) := (H2.out.cut l2).after hA
      have r3 : Row wr a3 k (z3.take k) := (H3.out.cut l3).after hA
      have xl : X.length = k := by rw [HX.out]; exact xors_len r1.1 r2.1 r3.1
      have xb : Bs X := by rw [HX.out]; exact xors_bs r1.2.1 r2.2.1 r3.2.1
      rw [← xl, List.take_length, xl] at ho
      obtain ⟨a0, c0, rfl, r0, _⟩ := own_row ho xb
      have R0 := hideIt r0
      have R1 := hideIt r1
      have R2 := hideIt r2
      have R3 := hideIt r3
      have s16 := sum16_xors (r1.1.trans r2.1.symm) (r2.1.trans r3.1.symm) r1.2.1 r2.2.1 r3.2.1
      have s32 := sum32_xors (r1.1.trans r2.1.symm) (r2.1.trans r3.1.symm) r1.2.1 r2.2.1 r3.2.1
      rw [← HX.out] at s16 s32
      have b1 : sum16 (z1.take k) < 65536 := fold16_lt (by omega) r1.2.1
      have b2 : sum16 (z2.take k) < 65536 := fold16_lt (by omega) r2.2.1
      have b3 : sum16 (z3.take k) < 65536 := fold16_lt (by omega) r3.2.1
      have d1 : sum32 (z1.take k) < 4294967296 := by unfold sum32; omega
      have d2 : sum32 (z2.take k) < 4294967296 := by unfold sum32; omega
      have d3 : sum32 (z3.take k) < 4294967296 := by unfold sum32; omega
      obtain ⟨S0, e0⟩ : ∃ S, sum16 X = S := ⟨_, rfl⟩
      obtain ⟨S1, e1⟩ : ∃ S, sum16 (z1.take k) = S := ⟨_, rfl⟩
      obtain ⟨S2, e2⟩ : ∃ S, sum16 (z2.take k) = S := ⟨_, rfl⟩
      obtain ⟨S3, e3⟩ : ∃ S, sum16 (z3.take k) = S := ⟨_, rfl⟩
      obtain ⟨T0, f0⟩ : ∃ S, sum32 X = S := ⟨_, rfl⟩
      obtain ⟨T1, f1⟩ : ∃ S, sum32 (z1.take k) = S := ⟨_, rfl⟩
      obtain ⟨T2, f2⟩ : ∃ S, sum32 (z2.take k) = S := ⟨_, rfl⟩
      obtain ⟨T3, f3⟩ : ∃ S, sum32 (z3.take k) = S := ⟨_, rfl⟩
      rw [e0, e1, e2, e3] at s16
      rw [f0, f1, f2, f3] at s32
      rw [e1] at b1
      rw [e2] at b2
      rw [e3] at b3
      rw [f1] at d1
      rw [f2] at d2
      rw [f3] at d3
      have E0 := hideIt e0
      have E1 := hideIt e1
      have E2 := hideIt e2
      have E3 := hideIt e3
      have F0 := hideIt f0
      have F1 := hideIt f1
      have F2 := hideIt f2
      have F3 := hideIt f3
      obtain ⟨Q, hQ⟩ : ∃ Q, Q = S1 ^^^ S2 := ⟨_, rfl⟩
      obtain ⟨P, hP⟩ : ∃ P, P = T1 ^^^ T2 := ⟨_, rfl⟩
      have x1 : bits .xor .u16 (S1 : Int) (S2 : Int) = (Q : Int) := by rw [hQ]; exact u16_xor_nat _ _ b1 b2
      have x2 : bits .xor .u16 (Q : Int) (S3 : Int) = (S0 : Int) := by rw [s16, hQ]; exact u16_xor_nat _ _ (x16 b1 b2) b3
      have y1 : bits .xor .u32 (T1 : Int) (T2 : Int) = (P : Int) := by rw [hP]; exact u32_xor_nat _ _ d1 d2
      have y2 : bits .xor .u32 (P : Int) (T3 : Int) = (T0 : Int) := by rw [s32, hP]; exact u32_xor_nat _ _ (x32 d1 d2) d3
      have KN := hideIt (show k ≤ 140737488355328 by omega)
      have A2 := hideIt hA
      have m1 : (k : Int) ≤ c1 := by omega
      have m2 : (k : Int) ≤ c2 := by omega
      have m3 : (k : Int) ≤ c3 := by omega
      clear e0 e1 e2 e3 f0 f1 f2 f3 hQ hP s16 s32 b1 b2 b3 d1 d2 d3 r0 r1 r2 r3 ho xl xb HX X1 hA hlt hk A1 H1 H2 H3
      go_wp2_with fail
      go_region_held3 (fun W => After wr W) (first | exact After.rfl | exact Below.drew After.rfl | assumption | exact After.trans (by assumption) hc)
        (first
          | (go_at_call 10; refine (sum16_any _ _ _ _ _ (by first | exact R0.out.after (by assumption) | exact R1.out.after (by assumption) | exact R2.out.after (by assumption) | exact R3.out.after (by assumption)) KN.out).mono ?_; rintro e wc ⟨rfl, hc⟩; first | rw [E0.out] | rw [E1.out] | rw [E2.out] | rw [E3.out]))
      have A3 : After wr wc := by assumption
      have A4 := hideIt (A2.out.trans A3)
      have V0 := hideIt (R0.out.after A3)
      have V1 := hideIt (R1.out.after A3)
      have V2 := hideIt (R2.out.after A3)
      have V3 := hideIt (R3.out.after A3)
      clear A3 hc R0 R1 R2 R3 A2 E0 E1 E2 E3 x1 x2
      go_wp2_with fail
      go_region_held3 (fun W => After wc W) (first | exact After.rfl | exact Below.drew After.rfl | assumption | exact After.trans (by assumption) hd)
        (first
          | (go_at_call 12; refine (sum32_any _ _ _ _ _ (by first | exact V0.out.after (by assumption) | exact V1.out.after (by assumption) | exact V2.out.after (by assumption) | exact V3.out.after (by assumption)) KN.out).mono ?_; rintro e wd ⟨rfl, hd⟩; first | rw [F0.out] | rw [F1.out] | rw [F2.out] | rw [F3.out]))
      have A5 : After wc wd := by assumption
      have A6 := hideIt (A4.out.trans A5)
      clear A5 hd V0 V1 V2 V3 A4
      go_wp2
      go_ret
      exact ⟨rfl, A6.out⟩
end Go.Proofs.Ytgdkepanmnmhjaa
