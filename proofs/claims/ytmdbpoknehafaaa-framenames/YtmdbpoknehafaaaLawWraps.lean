/-
  FrameWraps, walked.
-/
import Derived.Test.YtmdbpoknehafaaaTurned
namespace Go.Proofs.Ytmdbpoknehafaaa
open Go.RowKit
/-- The block of a slice. -/
def BlkOf (a : Option Addr) : Nat → Prop := fun q => ∃ x, a = some x ∧ x.block = q
set_option maxRecDepth 100000 in
set_option maxHeartbeats 1000000 in
theorem wraps_walk (a : Option Addr) (n c : Nat) (zs : List Int) (w : World) (hr : Row w a n zs) (ha : a = none → n = 0 ∧ c = 0) (hn : n ≤ 140737488355328) :
    Calls Try.prog 4 #[.slice a n c] w fun e w' => e = .returned (.bool true) ∧ After w w' := by
  have H1 := hideIt (copy_any a n c zs w hr ha hn)
  have HR := hideIt hr
  have HNO := hideIt ha
  have HZ := hideIt hr.2.1
  have HL := hideIt hr.1
  clear hr ha
  go_enter Try.func4, Try.ntmps4
  go_wp2_with fail
  refine H1.out.mono ?_
  rintro e w1 ⟨v1, rfl, o1, a1⟩
  obtain ⟨p1, q1, rfl, r1, n1, k1, j1⟩ := own_row o1 HZ.out
  have R1 := hideIt r1
  have A1 := hideIt a1
  have S1 : w.heap.size ≤ w1.heap.size := a1.size
  have J1 : Hid (∀ x, p1 = some x → x.block < w1.heap.size) := fun x hx => (o1.lt _ (j1 x hx).1).2
  have H2 := hideIt (wrap_any p1 n q1 zs w1 r1 n1 hn)
  clear r1 o1 a1 n1 k1 j1 H1
  go_wp2_with fail
  refine H2.out.mono ?_
  rintro e w2 ⟨v2, rfl, o2, a2⟩
  have hbx : Bs (wNew zs) := by
    unfold wNew
    split
    · rename_i hh
      rw [wrap_two]
      exact Bs.append (Bs.append (zs := [126]) (bs_of _ (by decide)) (Bs.append (two_bs (by omega)) HZ.out)) (two_bs (sum16_lt (Bs.append (two_bs (by omega)) HZ.out)))
    · exact Bs.nil
  have hlx : (wNew zs).length ≤ 261 := by
    unfold wNew
    split
    · rw [wrap_length]; omega
    · simp
  obtain ⟨p2, q2, rfl⟩ := own_slice o2
  have O2 := hideIt o2
  have HBX := hideIt hbx
  have A2 := hideIt (A1.out.trans a2)
  have R2 := hideIt (R1.out.after a2)
  have S2 := hideIt a2.size
  have J2 : Hid (∀ x, p2 = some x → w1.heap.size ≤ x.block ∧ x.block < w2.heap.size) := fun x hx => o2.lt x.block (by rw [hx]; rfl)
  have H3 := hideIt (refWrap_any a n c zs w2 (HR.out.after A2.out) HNO.out hn)
  clear o2 a2 H2 R1 A1 hbx
  go_wp2_with fail
  refine H3.out.mono ?_
  rintro e w3 ⟨v3, rfl, o3, a3⟩
  obtain ⟨p3, q3, rfl, r3, n3, k3, j3⟩ := own_row o3 HBX.out
  have O3 := hideIt (own_after O2.out a3)
  obtain ⟨p2', q2', e2, r2, _, _, _⟩ := own_row O3.out HBX.out
  cases e2
  have A3 := hideIt (A2.out.trans a3)
  have R3 := hideIt (R2.out.after a3)
  have H4 := hideIt (eqBytes_same p2 p3 _ q2 q3 _ w3 r2 r3 (by omega))
  clear o3 a3 H3 R2 A2 r3 n3 k3 j3 r2 O2
  generalize wNew zs = X at *
  generalize hXL : X.length = L at *
  generalize wErr zs = er at *
  go_wp2_with fail
  refine H4.out.mono ?_
  rintro e w4 ⟨rfl, a4⟩
  have O4 := hideIt (own_after O3.out a4)
  have A4 := hideIt (A3.out.trans a4)
  have R4 := hideIt (R3.out.after a4)
  have H5 := hideIt (eqBytes_same p1 a n q1 c zs w4 R4.out (HR.out.after A4.out) hn)
  clear a4 H4 O3 A3 R3
  go_wp2_with fail
  refine H5.out.mono ?_
  rintro e w5 ⟨rfl, a5⟩
  have O5 := hideIt (own_after O4.out a5)
  have A5 := hideIt (A4.out.trans a5)
  have R5 := hideIt (R4.out.after a5)
  clear a5 H5 O4 A4 R4
  go_wp2_with fail
  go_loopw [8] (fun i W => ∃ (k : Nat) (ys : List Int), k ≤ L ∧ i = .int .i64 k ∧ W.ownsRow w1.heap.size 5 1 (.slice p2 L q2) L (u8s ys) ∧ Bs ys ∧ But (BlkOf p2) w5 W) (fun i _ => L - (intOf i).toNat)
  case atStart => exact ⟨0, X, Nat.zero_le _, rfl, O5.out, HBX.out, But.rfl⟩
  case round =>
    obtain ⟨k, ys, hk, rfl, ho, hb, hB⟩ := hrel
    by_cases hlt : k < L
    · obtain ⟨g, x, rfl, c1, lx, f1, g1, g2, hnext⟩ := own_round ho hb hlt
      obtain ⟨y, ho2, hy, hb2⟩ := hnext _ (xor_byte x lx)
      have N1 := hideIt ho2
      have N2 := hideIt hy
      have N3 := hideIt (hB.then hb2 (S := BlkOf (some ⟨g, 0, none⟩)) (fun i _ t => ⟨_, rfl, Eq.symm t⟩))
      have hki : (k : Int) < (L : Int) := by omega
      clear ho hb hB hnext ho2 hy hb2
      go_wp2
      go_roundw
      case rel => exact ⟨k + 1, y, by omega, by go_num, N1.out, N2.out, N3.out⟩
      case measure => simp [intOf]; omega
    · obtain rfl : k = L := by omega
      have hA6 : After w wr := A5.out.then hB (fun i hi t => by
        obtain ⟨x, hx, e⟩ := t
        have h1 := (J2.out x hx).1
        have h2 := S1
        omega)
      have A6 := hideIt hA6
      have R6 := hideIt (R5.out.but hB (fun x hx t => by
        obtain ⟨y, hy, e⟩ := t
        have h1 := (J2.out y hy).1
        have h2 := J1.out x hx
        omega))
      have H6 := hideIt (eqBytes_same p1 a n q1 c zs wr R6.out (HR.out.after hA6) hn)
      clear ho hb hB hA6
      go_wp2_with fail
      refine H6.out.mono ?_
      rintro e w7 ⟨rfl, a7⟩
      have A7 := hideIt (A6.out.trans a7)
      clear a7
      go_wp2_with fail
      refine (awake_any _).mono ?_
      rintro e w8 ⟨rfl, a8⟩
      have A8 := hideIt (A7.out.trans a8)
      clear a8
      go_wp2
      go_ret
      exact ⟨rfl, A8.out⟩
end Go.Proofs.Ytmdbpoknehafaaa
